/-
  Marks of sessions: a map of sync/atomic's numbers; put.
-/
import Derived.Test.YtllijeciodmckaaMp
import Derived.Test.YtllijeciodmckaaDk0
import Derived.Test.YtllijeciodmckaaCb
import Derived.Test.YtllijeciodmckaaProg
import Derived.Laws.Pointers
import Derived.Laws.LoneSync
import Derived.WalkSpells
import Derived.Deep.CutRange
namespace Go.Proofs.Ytllijeciodmckaa
open Go.RowKit Go.Maps
set_option linter.unusedSimpArgs false
/-- sync/atomic.OrT: what was there is handed back. -/
theorem run_call_or {P : Program} {f : FuncId} {fn : Func} (hf : P.funcs[f]? = some fn) (hname : (fn.name == "runtime.NumGoroutine") = false) (hb : fn.body.isNone = true) (hn : Extern.findNext fn = none) (k : IntKind)
    (he : Extern.find fn = some (Extern.Atomic.update (Op.intBits .or) k false)) {a : Addr} {x y s : Int} {w : World} (hc : w.cell? a = some (.int k x)) (hz : w.frozen? a = false)
    (hs : (Op.intBits .or k x y).run P w = .ok (.int k s) w) :
    (callFunc f #[.pointer (some a), .int k y]).run P w = .ok (.value (.int k x)) (w.setCell a (.int k s)) := by
  rw [run_callFunc_extern hf hname hb hn he]
  change (Sem.run P (do
    let a' ← asAddr (.pointer (some a))
    let old ← Extern.Atomic.read (.int k) a'
    let new ← Op.intBits .or k (← asInt old) (← asInt (.int k y))
    store a' new .atomic
    pure (if false = true then new else old)) w).andThen _ = _
  simp [Extern.Atomic.read, asAddr, asInt, asIntOf, hc, hz, hs, run_store P w a (.int k s) .atomic rfl, Result.andThen]
theorem or_small (w : World) (x m : Nat) (hx : x ≤ 3) (hm : m = 1 ∨ m = 2) : (Op.intBits .or .u32 (x : Nat) (m : Nat)).run Try.prog w = .ok (.int .u32 ((x ||| m : Nat) : Int)) w := by
  have h : x = 0 ∨ x = 1 ∨ x = 2 ∨ x = 3 := by omega
  rcases h with rfl | rfl | rfl | rfl <;> rcases hm with rfl | rfl <;> rfl
theorem or_any (w : World) (g : Nat) (x m : Nat) (hx : x ≤ 3) (hm : m = 1 ∨ m = 2) (hc : w.heap[g]? = some (.cells #[.int .u32 (x : Nat)] 308 (0, 0))) :
    Calls Try.prog 191 #[.pointer (some ⟨g, 0, none⟩), .int .u32 (m : Nat)] w fun e w' => e = .returned (.int .u32 (x : Nat)) ∧ w' = w.setCell ⟨g, 0, none⟩ (.int .u32 ((x ||| m : Nat) : Int)) := by
  have c0 : w.cell? ⟨g, 0, none⟩ = some (.int .u32 (x : Nat)) := cell_blk hc rfl
  have hl := run_call_or (P := Try.prog) Try.func205 (by kernel_rfl) (by kernel_rfl) (by kernel_rfl) .u32 (by kernel_rfl) c0 (free_blk hc) (or_small w x m hx hm)
  go_enter Try.func191, Try.ntmps191
  go_wp2
  go_ret
  exact ⟨rfl, rfl⟩
theorem uload_any (w : World) (g : Nat) (x : Nat) (hc : w.heap[g]? = some (.cells #[.int .u32 (x : Nat)] 308 (0, 0))) :
    Calls Try.prog 160 #[.pointer (some ⟨g, 0, none⟩)] w fun e w' => e = .returned (.int .u32 (x : Nat)) ∧ w = w' := by
  have c0 : w.cell? ⟨g, 0, none⟩ = some (.int .u32 (x : Nat)) := cell_blk hc rfl
  have hl := run_call_load (P := Try.prog) Try.func171 (by kernel_rfl) (by kernel_rfl) (by kernel_rfl) .u32 (by kernel_rfl) c0
  go_enter Try.func160, Try.ntmps160
  go_wp2
  go_ret
  exact ⟨rfl, rfl⟩
/-- MARKS: block mb is their map, of at most n entries; cur: each session's marks; the blocks are S's. -/
structure MkF (w : World) (mb n : Nat) (S : Nat → Prop) (cur : Int → Nat) (f : Int → Option Nat) : Prop where
  map : MapG Pt w Try.prog 3 mb n f
  own : S mb
  val : ∀ x, cur x ≤ 3
  none : ∀ x, cur x = 0 ↔ f x = none
  cell : ∀ x g, f x = some g → S g ∧ g ≠ mb ∧ w.heap[g]? = some (.cells #[.int .u32 (cur x : Nat)] 308 (0, 0))
  one : ∀ x y g, f x = some g → f y = some g → x = y
  lt : ∀ k, S k → k < w.heap.size
def Mk (w : World) (mb n : Nat) (S : Nat → Prop) (cur : Int → Nat) : Prop := ∃ f, MkF w mb n S cur f
section
variable {w w' : World} {mb n : Nat} {S T : Nat → Prop} {cur : Int → Nat} {f : Int → Option Nat}
theorem MkF.kp (h : MkF w mb n S cur f) (k : Kp w w' T) (hs : ∀ q, S q → ¬ T q) : MkF w' mb n S cur f :=
  ⟨h.map.kept (k.block mb h.map.lt (hs mb h.own)), h.own, h.val, h.none, fun x g hg => ⟨(h.cell x g hg).1, (h.cell x g hg).2.1, (k.block g (h.lt g (h.cell x g hg).1) (hs g (h.cell x g hg).1)).trans (h.cell x g hg).2.2⟩, h.one, fun q hq => Nat.lt_of_lt_of_le (h.lt q hq) k.size⟩
theorem Mk.kp (h : Mk w mb n S cur) (k : Kp w w' T) (hs : ∀ q, S q → ¬ T q) : Mk w' mb n S cur := by
  obtain ⟨f, h⟩ := h
  exact ⟨f, h.kp k hs⟩
theorem Mk.past (h : Mk w mb n S cur) (b : Below w.heap.size w w') : Mk w' mb n S cur := h.kp (Kp.ofBelow b (fun _ => False)) (fun _ _ h => h)
theorem MkF.past (h : MkF w mb n S cur f) (b : Below w.heap.size w w') : MkF w' mb n S cur f := h.kp (Kp.ofBelow b (fun _ => False)) (fun _ _ h => h)
theorem Mk.lt (h : Mk w mb n S cur) : ∀ k, S k → k < w.heap.size := by obtain ⟨f, h⟩ := h; exact h.lt
theorem Mk.congr {cur' : Int → Nat} (h : Mk w mb n S cur) (hc : ∀ x, cur x = cur' x) : Mk w mb n S cur' := by
  obtain rfl : cur = cur' := funext hc
  exact h
theorem Mk.made (w : World) : Mk (w.alloc (.map #[] 0)) w.heap.size 0 (fun k => k = w.heap.size) (fun _ => 0) :=
  ⟨fun _ => Option.none, MapG.made w _ _, rfl, fun _ => Nat.zero_le _, fun _ => ⟨fun _ => rfl, fun _ => rfl⟩, (fun x g hg => by cases hg), (fun x y g hg => by cases hg), fun k hk => by subst hk; rw [World.size_alloc]; omega⟩
/-- A session's number turns. -/
theorem MkF.bump (h : MkF w mb n S cur f) {s : Int} {g v : Nat} (hs : f s = some g) (h3 : v ≤ 3) (h0 : v ≠ 0) : MkF (w.setCell ⟨g, 0, Option.none⟩ (.int .u32 (v : Nat))) mb n S (fun y => if y = s then v else cur y) f := by
  obtain ⟨c1, c2, c3⟩ := h.cell s g hs
  refine ⟨h.map.kept (heap_setCell_other w _ mb _ (by exact fun e => c2 e.symm)), h.own, fun x => ?_, fun x => ?_, fun x q hq => ?_, h.one, fun k hk => by simp; exact h.lt k hk⟩
  · show (if _ then _ else _) ≤ 3
    split
    · exact h3
    · exact h.val x
  · show (if _ then _ else _) = 0 ↔ _
    split
    · rename_i e
      subst e
      rw [hs]
      simp [h0]
    · exact h.none x
  · obtain ⟨d1, d2, d3⟩ := h.cell x q hq
    refine ⟨d1, d2, ?_⟩
    show _ = some (Obj.cells #[.int .u32 ((if x = s then v else cur x : Nat) : Int)] _ _)
    by_cases e : x = s
    · subst e
      rw [hs] at hq
      obtain rfl := Option.some.inj hq
      rw [if_pos rfl, Go.Proofs.Ytllijeciodmckaa.heap_setCell_same c3]
      simp
    · rw [if_neg e, heap_setCell_other w _ q _ (by exact fun e1 => e (h.one x s g (by rw [hq, e1]) hs)), d3]
/-- A session's number comes anew. -/
theorem MkF.add (h : MkF w mb n S cur f) {s : Int} {v : Nat} (_hs : f s = Option.none) (h3 : v ≤ 3) (h0 : v ≠ 0) {w2 : World} (hm : MapG Pt w2 Try.prog 3 mb (n + 1) (fun y => if y = s then some w.heap.size else f y))
    (hg : (w.alloc (.cells #[.int .u32 0] 308)).grownBy w2 (some mb)) (hz : w2.heap.size = (w.alloc (.cells #[.int .u32 0] 308)).heap.size) :
    MkF (w2.setCell ⟨w.heap.size, 0, Option.none⟩ (.int .u32 (v : Nat))) mb (n + 1) (fun k => S k ∨ k = w.heap.size) (fun y => if y = s then v else cur y) (fun y => if y = s then some w.heap.size else f y) := by
  have hmb := h.map.lt
  have hsz : w2.heap.size = w.heap.size + 1 := by rw [hz, World.size_alloc]
  have hnew : w2.heap[w.heap.size]? = some (.cells #[.int .u32 0] 308 (0, 0)) := (hg.block w.heap.size (by rw [World.size_alloc]; omega) (fun e => by have := Option.some.inj e; omega)).trans (heap_alloc_new w _)
  refine ⟨hm.kept (heap_setCell_other w2 _ mb _ (by show mb ≠ w.heap.size; omega)), .inl h.own, fun x => ?_, fun x => ?_, fun x q hq => ?_, fun x y q hx hy => ?_, fun k hk => ?_⟩
  · show (if _ then _ else _) ≤ 3
    split
    · exact h3
    · exact h.val x
  · show (if _ then _ else _) = 0 ↔ (if _ then _ else _) = _
    split
    · simp [h0]
    · exact h.none x
  · show (S q ∨ _) ∧ _ ∧ _ = some (Obj.cells #[.int .u32 ((if x = s then v else cur x : Nat) : Int)] _ _)
    have hq' : (if x = s then some w.heap.size else f x) = some q := hq
    by_cases e : x = s
    · rw [if_pos e] at hq'
      obtain rfl := Option.some.inj hq'
      refine ⟨.inr rfl, by omega, ?_⟩
      rw [if_pos e, Go.Proofs.Ytllijeciodmckaa.heap_setCell_same hnew]
      simp
    · rw [if_neg e] at hq'
      obtain ⟨d1, d2, d3⟩ := h.cell x q hq'
      have hlt := h.lt q d1
      refine ⟨.inl d1, d2, ?_⟩
      rw [if_neg e, heap_setCell_other w2 _ q _ (by show q ≠ w.heap.size; omega), hg.block q (by rw [World.size_alloc]; omega) (fun e1 => d2 (Option.some.inj e1)), Below.heap_alloc w _ q hlt, d3]
  · have hx' : (if x = s then some w.heap.size else f x) = some q := hx
    have hy' : (if y = s then some w.heap.size else f y) = some q := hy
    by_cases e1 : x = s <;> by_cases e2 : y = s
    · rw [e1, e2]
    · rw [if_pos e1] at hx'
      rw [if_neg e2] at hy'
      obtain rfl := Option.some.inj hx'
      have := h.lt _ (h.cell y _ hy').1
      omega
    · rw [if_neg e1] at hx'
      rw [if_pos e2] at hy'
      obtain rfl := Option.some.inj hy'
      have := h.lt _ (h.cell x _ hx').1
      omega
    · rw [if_neg e1] at hx'
      rw [if_neg e2] at hy'
      exact h.one x y q hx' hy'
  · simp
    rcases hk with hk | rfl
    · have := h.lt k hk; omega
    · omega
end
theorem keyI : Keyed Try.prog 3 := int_keyed Try.underlying3
theorem zeroP (w : World) : (zeroValue 269).run Try.prog w = .ok (Pt.V Option.none) w := by kernel_rfl
/-- What put does. -/
def PutPost (mb n : Nat) (S : Nat → Prop) (cur : Int → Nat) (m : Nat) (s : Int) (w w' : World) : Prop :=
  ∃ n' S', Mk w' mb n' S' (fun y => if y = s then cur s ||| m else cur y) ∧ n' ≤ n + 1 ∧ (cur s &&& m ≠ 0 → n' = n) ∧ Kp w w' S ∧ Ext w S S'
set_option maxRecDepth 100000 in
set_option maxHeartbeats 1000000 in
theorem put_any (w : World) (mb n : Nat) (S : Nat → Prop) (cur : Int → Nat) (h : Mk w mb n S cur) (hn : n < 100000) (m : Nat) (hm : m = 1 ∨ m = 2) (s : Int) (hs : (Lit.int .i64 s).wf = true) :
    Calls Try.prog 159 #[.map (some mb), .int .u32 (m : Nat), .int .i64 s] w fun e w' => e = .returned (.bool (decide (cur s &&& m = 0))) ∧ PutPost mb n S cur m s w w' := by
  obtain ⟨f, h⟩ := h
  have hnm : n < maxLen := by unfold maxLen; omega
  cases hf : f s with
  | none =>
    have hc := (h.none s).2 hf
    have b1 : Below w.heap.size w (w.alloc (.cells #[.int .u32 0] 308)) := (Below.refl _ _).alloc (Nat.le_refl _) _
    have h1 := h.map.past b1
    have HP : ∀ w2 : World, MapG Pt w2 Try.prog 3 mb (n + 1) (fun y => if y = s then some w.heap.size else f y) → (w.alloc (.cells #[.int .u32 0] 308)).grownBy w2 (some mb) → w2.heap.size = (w.alloc (.cells #[.int .u32 0] 308)).heap.size →
        w2.heap[w.heap.size]? = some (.cells #[.int .u32 ((0 : Nat) : Int)] 308 (0, 0)) ∧ PutPost mb n S cur m s w (w2.setCell ⟨w.heap.size, 0, none⟩ (.int .u32 ((0 ||| m : Nat) : Int))) := fun w2 hm2 hg2 hz2 => by
      have hmb := h.map.lt
      refine ⟨(hg2.block w.heap.size (by rw [World.size_alloc]; omega) (fun e => by have := Option.some.inj e; omega)).trans (heap_alloc_new w _), n + 1, _, by rw [hc]; exact ⟨_, (h.add (v := 0 ||| m) hf (by rcases hm with rfl | rfl <;> decide) (by rcases hm with rfl | rfl <;> decide) hm2 hg2 hz2)⟩, Nat.le_refl _, fun e => ?_, ?_, fun k hk => ?_⟩
      · rw [hc] at e
        simp at e
      · refine Kp.trans (Kp.ofBelow b1 S) (Kp.trans (T := fun k => S k ∨ k = w.heap.size) (S := fun k => S k ∨ k = w.heap.size) (Kp.ofGrown hg2 fun g e => ?_) (Kp.set _ _ _ _ (.inr rfl)) (fun _ _ h => h)) (fun q hq hT => ?_)
        · obtain rfl := Option.some.inj e
          exact .inl h.own
        · rcases hT with hT | rfl
          · exact hT
          · omega
      · rcases hk with hk | rfl
        · exact .inl hk
        · exact .inr (Nat.le_refl _)
    have hPh := Lib.hid HP
    have hv : Pt.V (f s) = .pointer none := by rw [hf]; rfl
    have hd : decide (cur s &&& m = 0) = true := by rw [hc]; simp
    rw [hd]
    clear HP hd hc
    have hnew : ∀ v : Option Nat, (if s = s then v else f s) = v := fun v => if_pos rfl
    go_enter Try.func159, Try.ntmps159
    go_wp2_with (first
      | (at_lookup; refine wpList_look_v rfl _ _ 204 rfl 3 269 keyI Try.underlying3 Try.underlying204 (zeroP _) mb n f rfl h.map s rfl hs (.pointer none) hv ?_)
      | (at_mapUpdate; refine wpList_upd_g rfl _ _ _ 204 rfl 3 269 keyI Try.underlying3 Try.underlying204 mb n f rfl h1 hnm s rfl hs w.heap.size rfl ?_; intro w2 hm2 hg2 hz2; obtain ⟨hc2, hP2⟩ := hPh.out w2 hm2 hg2 hz2)
      | (at_lookup; refine wpList_look_v rfl _ _ 204 rfl 3 269 keyI Try.underlying3 Try.underlying204 (zeroP _) mb (n + 1) _ rfl hm2 s rfl hs (.pointer (some ⟨w.heap.size, 0, none⟩)) (by rw [hnew]; rfl) ?_)
      | (go_at_call 191; refine (or_any w2 w.heap.size 0 m (by omega) hm hc2).mono ?_; rintro e w3 ⟨rfl, rfl⟩))
    rcases hm with rfl | rfl
    all_goals
      go_wp2_with fail
      go_ret
      exact ⟨rfl, hP2⟩
  | some g =>
    obtain ⟨c1, c2, c3⟩ := h.cell s g hf
    have hcx : cur s ≠ 0 := fun e => by rw [(h.none s).1 e] at hf; cases hf
    have hc3 := h.val s
    have HP : PutPost mb n S cur m s w (w.setCell ⟨g, 0, none⟩ (.int .u32 ((cur s ||| m : Nat) : Int))) := by
      have hv : cur s = 1 ∨ cur s = 2 ∨ cur s = 3 := by omega
      refine ⟨n, S, ⟨f, h.bump hf ?_ ?_⟩, by omega, fun _ => rfl, Kp.set _ _ _ _ c1, Ext.refl _ _⟩
      · rcases hv with e | e | e <;> rw [e] <;> rcases hm with rfl | rfl <;> decide
      · rcases hv with e | e | e <;> rw [e] <;> rcases hm with rfl | rfl <;> decide
    have hPh := Lib.hid HP
    have hv : Pt.V (f s) = .pointer (some ⟨g, 0, none⟩) := by rw [hf]; rfl
    clear HP
    obtain ⟨x, hx⟩ : ∃ x, cur s = x := ⟨_, rfl⟩
    rw [hx] at c3 hcx hc3 hPh ⊢
    go_enter Try.func159, Try.ntmps159
    go_wp2_with (first
      | (at_lookup; refine wpList_look_v rfl _ _ 204 rfl 3 269 keyI Try.underlying3 Try.underlying204 (zeroP _) mb n f rfl h.map s rfl hs (.pointer (some ⟨g, 0, none⟩)) hv ?_)
      | (go_at_call 191; refine (or_any w g x m hc3 hm c3).mono ?_; rintro e w3 ⟨rfl, rfl⟩))
    have hxx : x = 1 ∨ x = 2 ∨ x = 3 := by omega
    rcases hxx with rfl | rfl | rfl <;> rcases hm with rfl | rfl
    all_goals
      go_wp2_with fail
      go_ret
      exact ⟨rfl, hPh.out⟩
end Go.Proofs.Ytllijeciodmckaa
