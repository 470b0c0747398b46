/-
  table.seek.
-/
import Derived.Test.YtllijeciodmckaaTabS
import Derived.Test.YtllijeciodmckaaBlk
namespace Go.Proofs.Ytllijeciodmckaa
open Go.RowKit
set_option linter.unusedSimpArgs false
theorem szSp : (Try.prog.info? 161).map (·.size) = some 7 := by kernel_rfl
theorem szTb : (Try.prog.info? 47).map (·.size) = some 5 := by kernel_rfl
theorem szSc : (Try.prog.info? 40).map (·.size) = some 4 := by kernel_rfl
def spC (l : List UInt8) (co : Option Addr) (cn cc : Nat) (key : Int) (only : Bool) (ro : Option Addr) (rn rc : Nat) (at' : Int) (tk : Bool) : Array Value := #[.string (bsOf l), .slice co cn cc, .int .i64 key, .bool only, .slice ro rn rc, .int .i64 at', .bool tk]
theorem spC_size (l : List UInt8) (co : Option Addr) (cn cc : Nat) (key : Int) (only : Bool) (ro : Option Addr) (rn rc : Nat) (at' : Int) (tk : Bool) : (spC l co cn cc key only ro rn rc at' tk).size = 7 := rfl
theorem spC_all (l : List UInt8) (co : Option Addr) (cn cc : Nat) (key : Int) (only : Bool) (ro : Option Addr) (rn rc : Nat) (at' : Int) (tk : Bool) : (spC l co cn cc key only ro rn rc at' tk).all (·.oneCell') = true := by simp [spC, Value.oneCell']
theorem tbC_size (l : List UInt8) (co : Option Addr) (cn cc : Nat) (key : Int) (only : Bool) (ro : Option Addr) (rn rc : Nat) : (tbC l co cn cc key only ro rn rc).size = 5 := rfl
theorem tbC_all (l : List UInt8) (co : Option Addr) (cn cc : Nat) (key : Int) (only : Bool) (ro : Option Addr) (rn rc : Nat) : (tbC l co cn cc key only ro rn rc).all (·.oneCell') = true := by simp [tbC, Value.oneCell']
theorem sp_cells {w : World} {p : Nat} {l : List UInt8} {co : Option Addr} {cn cc : Nat} {ky : Int} {only : Bool} {ro : Option Addr} {rn rc : Nat} {a : Int} {tk : Bool} {t : TypeId} (h : Bk w p (spC l co cn cc ky only ro rn rc a tk) t) :
    w.cell? ⟨p, 0, none⟩ = some (.string (bsOf l)) ∧ w.cell? ⟨p, 1, none⟩ = some (.slice co cn cc) ∧ w.cell? ⟨p, 2, none⟩ = some (.int .i64 ky) ∧ w.cell? ⟨p, 3, none⟩ = some (.bool only) ∧ w.cell? ⟨p, 4, none⟩ = some (.slice ro rn rc) ∧ w.cell? ⟨p, 5, none⟩ = some (.int .i64 a) ∧ w.cell? ⟨p, 6, none⟩ = some (.bool tk) :=
  ⟨h.c rfl, h.c rfl, h.c rfl, h.c rfl, h.c rfl, h.c rfl, h.c rfl⟩
set_option maxRecDepth 100000 in
set_option maxHeartbeats 1000000 in
theorem seek_any (w : World) (l : List UInt8) (co : Option Addr) (cn cc : Nat) (ky : Nat) (only : Bool) (ro : Option Addr) (rn rc : Nat) (B : Nat) (rs : List (List V)) (h : IsRR EV w B ro rn rc rs) (v : V) (hS : Srt ky rs) (hn : rn ≤ 1000) :
    Calls Try.prog 76 #[tbV l co cn cc (ky : Nat) only ro rn rc, vv v.k v.n v.s] w fun e w' => e = .returned (spV l co cn cc (ky : Nat) only ro rn rc (atN ky v rs : Nat) (hasN ky v rs)) ∧ Below w.heap.size w w' := by
  have hmf : ∀ (fn : Fn) (first cap : Array Value) (w : World), (Instr.makeFunc fn first cap).run Try.prog w = .ok (.func fn first cap) w := fun _ _ _ _ => rfl
  have HB := fun (w' : World) (p : Nat) (hp : Bk w' p (tbC l co cn cc (ky : Nat) only ro rn rc) 47) (h' : IsRR EV w' B ro rn rc rs) => bsearch_any w' p l co cn cc ky only ro rn rc hp B rs h' v hS hn
  obtain ⟨N, hN⟩ : ∃ N, atN ky v rs = N := ⟨_, rfl⟩
  obtain ⟨tk, htk⟩ : ∃ tk, hasN ky v rs = tk := ⟨_, rfl⟩
  simp only [hN, htk] at HB ⊢
  clear hN htk
  obtain ⟨k, m, s⟩ := v
  simp only at HB ⊢
  unfold tbV
  have hT : Bk (((w.alloc (.cells #[.string (bsOf l), .slice co cn cc, .int .i64 (ky : Nat), .bool only, .slice ro rn rc] 47)).alloc (.cells #[.int .i64 k, .int .i64 m, .string s] 55)).alloc (.cells #[.string ⟨#[]⟩, .slice none 0 0, .int .i64 0, .bool false, .slice none 0 0, .int .i64 0, .bool false] 161)) w.heap.size (tbC l co cn cc (ky : Nat) only ro rn rc) 47 := ((Bk.new w _ _).alloc _).alloc _
  have hV : VAt (((w.alloc (.cells #[.string (bsOf l), .slice co cn cc, .int .i64 (ky : Nat), .bool only, .slice ro rn rc] 47)).alloc (.cells #[.int .i64 k, .int .i64 m, .string s] 55)).alloc (.cells #[.string ⟨#[]⟩, .slice none 0 0, .int .i64 0, .bool false, .slice none 0 0, .int .i64 0, .bool false] 161)) (w.heap.size + 1) k m s := by
    have := (VAt.new (w.alloc (.cells #[.string (bsOf l), .slice co cn cc, .int .i64 (ky : Nat), .bool only, .slice ro rn rc] 47)) k m s).alloc (.cells #[.string ⟨#[]⟩, .slice none 0 0, .int .i64 0, .bool false, .slice none 0 0, .int .i64 0, .bool false] 161)
    rwa [World.size_alloc] at this
  have hR : Bk (((w.alloc (.cells #[.string (bsOf l), .slice co cn cc, .int .i64 (ky : Nat), .bool only, .slice ro rn rc] 47)).alloc (.cells #[.int .i64 k, .int .i64 m, .string s] 55)).alloc (.cells #[.string ⟨#[]⟩, .slice none 0 0, .int .i64 0, .bool false, .slice none 0 0, .int .i64 0, .bool false] 161)) (w.heap.size + 1 + 1) (spC [] none 0 0 0 false none 0 0 0 false) 161 := by
    have := Bk.new ((w.alloc (.cells #[.string (bsOf l), .slice co cn cc, .int .i64 (ky : Nat), .bool only, .slice ro rn rc] 47)).alloc (.cells #[.int .i64 k, .int .i64 m, .string s] 55)) #[.string ⟨#[]⟩, .slice none 0 0, .int .i64 0, .bool false, .slice none 0 0, .int .i64 0, .bool false] 161
    rwa [World.size_alloc, World.size_alloc] at this
  have hB : Below w.heap.size w (((w.alloc (.cells #[.string (bsOf l), .slice co cn cc, .int .i64 (ky : Nat), .bool only, .slice ro rn rc] 47)).alloc (.cells #[.int .i64 k, .int .i64 m, .string s] 55)).alloc (.cells #[.string ⟨#[]⟩, .slice none 0 0, .int .i64 0, .bool false, .slice none 0 0, .int .i64 0, .bool false] 161)) := (((Below.refl _ _).alloc (Nat.le_refl _) _).alloc (by simp) _).alloc (by simp; omega) _
  go_enter Try.func76, Try.ntmps76
  go_upto_region 1 with fail
  generalize ((w.alloc (.cells #[.string (bsOf l), .slice co cn cc, .int .i64 (ky : Nat), .bool only, .slice ro rn rc] 47)).alloc (.cells #[.int .i64 k, .int .i64 m, .string s] 55)).alloc (.cells #[.string ⟨#[]⟩, .slice none 0 0, .int .i64 0, .bool false, .slice none 0 0, .int .i64 0, .bool false] 161) = W at hT hV hR hB ⊢
  have hw := h.past hB
  obtain ⟨p, hp⟩ : ∃ p, w.heap.size = p := ⟨_, rfl⟩
  have HP := Lib.hid hp
  rw [hp] at hT hV hR hB
  simp only [hp]
  obtain ⟨r, hr⟩ : ∃ r, p + 1 + 1 = r := ⟨_, rfl⟩
  rw [hr] at hR
  have hpr : p < r := by omega
  obtain ⟨q, hq⟩ : ∃ q, p + 1 = q := ⟨_, rfl⟩
  rw [hq] at hV
  try simp only [hr]
  try simp only [hq]
  clear hp hr hq
  obtain ⟨g0, g1, g2, -, -, -, hgB⟩ := hV
  obtain ⟨t0, t1, t2, t3, t4⟩ := tb_cells hT
  go_upto_region 2 with (go_at_call 132; refine (HB _ p hT hw).mono ?_; rintro e w1 ⟨rfl, b1⟩)
  have hT1 := hT.past b1
  have hR1 := hR.past b1
  have hR1h : Hid (w1.heap[r]? = some (.cells (spC [] none 0 0 0 false none 0 0 0 false) 161 (0, 0))) := hR1
  have hp1 : p ≤ W.heap.size := Nat.le_of_lt hT.lt
  clear t0 t1 t2 t3 t4
  obtain ⟨t0, t1, t2, t3, t4⟩ := tb_cells hT1
  go_wp2_with ((with_reducible refine wpList_store_blk (o := ⟨none, _, _, _, _, _⟩) rfl 161 (.tmp 4) (.tmp 18) rfl r _ (spC l co cn cc (ky : Nat) only ro rn rc (N : Nat) tk) ?_ ?_ _ hR1h 7 szSp (spC_size ..) (spC_size ..) (spC_all ..) ?_); (rfl); (rfl); (intro w2 h2 g2))
  have hR2 : Bk w2 r (spC l co cn cc (ky : Nat) only ro rn rc (N : Nat) tk) 161 := h2.out
  obtain ⟨r0, r1, r2, r3, r4, r5, r6⟩ := sp_cells hR2
  refine bodyPost_ret (v := spV l co cn cc (ky : Nat) only ro rn rc (N : Nat) tk) (by simp [results, Try.results76, go_sem, spV, r0, r1, r2, r3, r4, r5, r6]) rfl ?_
  exact ⟨rfl, by rw [HP.out]; exact (hB.trans (b1.mono hp1)).grown g2 (Nat.le_trans hp1 b1.size) (fun z hz => by cases hz; exact Nat.le_of_lt hpr)⟩
end Go.Proofs.Ytllijeciodmckaa
