/-
  table.Get, Put, Take, Range (by gen_tabc.py).
-/
import Derived.Test.YtllijeciodmckaaTabH
namespace Go.Proofs.Ytllijeciodmckaa
open Go.RowKit
set_option linter.unusedSimpArgs false
theorem part_lit (w : World) (t : TypeId) (xs : List HdR) (pss : List (List HdR)) (h : Rd EH w xs pss) (N : Nat) (hN : xs.length = N) (h1 : N ≤ 1000) (cs : Array Value) (hcs : cs.toList = EH.all xs) : IsRR EH (w.alloc (.cells cs t)) 0 (some ⟨w.heap.size, 0, none⟩) N N pss :=
  ⟨xs, (OwnR.ofBlk (E := EH) (l := xs) (n := N) (heap_alloc_new w _) hcs hN (by omega)).isR, h.past ((Below.refl _ _).alloc (Nat.le_refl _) _), (fun _ _ => Nat.zero_le _ : Frm 0 _), (fun _ _ _ _ => Nat.zero_le _ : FrmH 0 _)⟩
theorem lit_one (w : World) (t : TypeId) (x : HdR) : IsR EH (w.alloc (.cells #[.slice x.a x.n x.c] t)) (some ⟨w.heap.size, 0, none⟩) 1 1 [x] := (OwnR.ofBlk (E := EH) (l := [x]) (n := 1) (heap_alloc_new w _) rfl rfl (by omega)).isR
/-- What Put answers. -/
def putE (cs : List Co) (ky : Nat) (r : List V) (rs : List (List V)) : Int := if fitsE cs r = 0 then (if hasN ky (kOf ky r) rs = true then 7 else if 200 ≤ rs.length then 4 else 0) else fitsE cs r
def putR (cs : List Co) (ky : Nat) (r : List V) (rs : List (List V)) : List (List V) := if putE cs ky r rs = 0 then putN ky r rs else rs
def PutIs (w : World) (l : List UInt8) (cs : List Co) (cn : Nat) (ky : Nat) (only : Bool) (E : Int) (rs' : List (List V)) (e : Ending) (w' : World) : Prop :=
  ∃ co cc ro rn rc, e = .returned (.tuple #[tbV l co cn cc (ky : Nat) only ro rn rc, .int .i64 E]) ∧ IsT w' w.heap.size co cn cc cs ro rn rc rs' ∧ Below w.heap.size w w'
theorem hasN_at {ky : Nat} {v : V} {rs : List (List V)} (h : hasN ky v rs = true) : ∃ r, rs[atN ky v rs]? = some r := by
  have := has_lt h
  exact ⟨rs[atN ky v rs]'this, List.getElem?_eq_getElem _⟩
set_option maxRecDepth 100000 in
set_option maxHeartbeats 1000000 in
theorem get_any (w : World) (l : List UInt8) (co : Option Addr) (cn cc : Nat) (ky : Nat) (only : Bool) (ro : Option Addr) (rn rc : Nat) (cs : List Co) (B : Nat) (rs : List (List V)) (h : IsT w B co cn cc cs ro rn rc rs) (v : V) (hS : Srt ky rs) (hn : rn ≤ 1000) (hrl : ∀ r ∈ rs, 0 < r.length ∧ r.length ≤ 1000) :
    Calls Try.prog 26 #[tbV l co cn cc (ky : Nat) only ro rn rc, vv v.k v.n v.s] w fun e w' => (hasN ky v rs = false → e = .returned (.tuple #[.slice none 0 0, .bool false])) ∧ (∀ r, hasN ky v rs = true → rs[atN ky v rs]? = some r → ∃ g c, e = .returned (.tuple #[.slice (some ⟨g, 0, none⟩) r.length c, .bool true]) ∧ OwnR EV w' 55 g r.length c r ∧ w.heap.size ≤ g) ∧ Below w.heap.size w w' := by
  have HB := fun (w' : World) (hb : Below w.heap.size w w') => seek_any w' l co cn cc ky only ro rn rc B rs (h.rows.past hb) v hS hn
  obtain ⟨N, hN⟩ : ∃ N, atN ky v rs = N := ⟨_, rfl⟩
  obtain ⟨tk, htk⟩ : ∃ tk, hasN ky v rs = tk := ⟨_, rfl⟩
  have hat := fun h : hasN ky v rs = true => hasN_at h
  simp only [hN, htk] at HB hat ⊢
  clear hN htk
  obtain ⟨k, m, s⟩ := v
  simp only at HB ⊢
  have hB : Below w.heap.size w ((w.alloc (.cells #[.string (bsOf l), .slice co cn cc, .int .i64 (ky : Nat), .bool only, .slice ro rn rc] 47)).alloc (.cells #[.int .i64 k, .int .i64 m, .string s] 55)) := ((Below.refl _ _).alloc (Nat.le_refl _) _).alloc (by simp) _
  have hT : Bk ((w.alloc (.cells #[.string (bsOf l), .slice co cn cc, .int .i64 (ky : Nat), .bool only, .slice ro rn rc] 47)).alloc (.cells #[.int .i64 k, .int .i64 m, .string s] 55)) w.heap.size (tbC l co cn cc (ky : Nat) only ro rn rc) 47 := (Bk.new w _ _).alloc _
  have hV : VAt ((w.alloc (.cells #[.string (bsOf l), .slice co cn cc, .int .i64 (ky : Nat), .bool only, .slice ro rn rc] 47)).alloc (.cells #[.int .i64 k, .int .i64 m, .string s] 55)) (w.heap.size + 1) k m s := by
    have := VAt.new (w.alloc (.cells #[.string (bsOf l), .slice co cn cc, .int .i64 (ky : Nat), .bool only, .slice ro rn rc] 47)) k m s
    rwa [World.size_alloc] at this
  unfold tbV
  have HSk : ∀ w' : World, Below w.heap.size w w' → Calls Try.prog 76 #[.agg #[.string (bsOf l), .slice co cn cc, .int .i64 (ky : Nat), .bool only, .slice ro rn rc], vv k m s] w' fun e w'' => e = .returned (.agg #[.string (bsOf l), .slice co cn cc, .int .i64 (ky : Nat), .bool only, .slice ro rn rc, .int .i64 (N : Nat), .bool tk]) ∧ Below w'.heap.size w' w'' := HB
  clear HB
  cases tk with
  | false =>
    go_enter Try.func26, Try.ntmps26
    go_wp2_with (go_at_call 76; refine (HSk _ hB).mono ?_; rintro e w1 ⟨rfl, b1⟩)
    go_ret2
    exact ⟨fun _ => rfl, (fun r q => by cases q), (hB.trans (b1.mono hB.size)).alloc (Nat.le_trans hB.size b1.size) _⟩
  | true =>
    obtain ⟨r, hr⟩ := hat rfl
    obtain ⟨hr0, hr1⟩ := hrl r (List.mem_of_getElem? hr)
    have HRw := fun (w' : World) (hb : Below w.heap.size w w') => row_any w' l co cn cc (ky : Nat) only ro rn rc B rs (h.rows.past hb) N r hr hr0 hr1 true
    unfold spV at HRw
    go_enter Try.func26, Try.ntmps26
    go_upto_region 2 with (go_at_call 76; refine (HSk _ hB).mono ?_; rintro e w1 ⟨rfl, b1⟩)
    have hB2 := (hB.trans (b1.mono hB.size)).alloc (Nat.le_trans hB.size b1.size) (.cells #[.string (bsOf l), .slice co cn cc, .int .i64 (ky : Nat), .bool only, .slice ro rn rc, .int .i64 (N : Nat), .bool true] 161)
    go_wp2_with (go_at_call 86; refine (HRw _ hB2).mono ?_; rintro e w2 ⟨g, c, rfl, o2, b2, q2⟩)
    go_ret2
    refine ⟨(fun q => by cases q), fun r' _ hr' => ?_, hB2.trans (b2.mono hB2.size)⟩
    obtain rfl : r = r' := Option.some.inj (hr.symm.trans hr')
    exact ⟨g, c, rfl, o2, Nat.le_trans hB2.size q2⟩
end Go.Proofs.Ytllijeciodmckaa
