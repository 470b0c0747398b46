/-
  What package row reads: a byte up to a bound, a value.
-/
import Derived.Test.YtpphlmbhonaglaaRowV
import Derived.Test.YtpphlmbhonaglaaRead
namespace Go.Proofs.Ytpphlmbhonaglaa
open Go.RowKit

theorem Rd.low {w w' : World} {g B : Nat} {D : Option Nat} {l : List UInt8} {e : Int} (h : Rd w g D l e) (hg : g < B) (hD : ∀ b, D = some b → b < B) (k : Below B w w') : Rd w' g D l e := by
  obtain ⟨ao, n, cap, d, hb, hd, hi, hDa, hne⟩ := h
  exact ⟨ao, n, cap, d, by rw [k.block g hg]; exact hb, hd, hi.below k (fun a ha => hD _ (hDa a ha)), hDa, hne⟩
theorem grown_low {w a b : World} {g : Nat} (h : w.grownBy a (some g)) (k : Below w.heap.size a b) : w.grownBy b (some g) :=
  ⟨k.os.trans h.os, k.tape.trans h.tape, k.output.trans h.output, Nat.le_trans h.size k.size, fun i hi hne => by rw [k.block i hi, h.block i hi hne]⟩
/-- A byte read up to m: the number, and the error x if it is above. -/
def upV (m : Int) (l : List UInt8) (e : Int) : Int := if m < vN 1 l e then 0 else vN 1 l e
def upE (m x : Int) (l : List UInt8) (e : Int) : Int := if m < vN 1 l e then err1 (eN 1 l e) x else eN 1 l e
set_option maxRecDepth 100000 in
set_option maxHeartbeats 1000000 in
theorem upTo_any (g : Nat) (D : Option Nat) (l : List UInt8) (e m x : Int) (w : World) (h : Rd w g D l e) :
    Calls Try.prog 32 #[.agg #[.pointer (some ⟨g, 0, none⟩)], .int .i64 m, .int .i64 x] w (Said w g D (upV m l e) (dN 1 l e) (upE m x l e)) := by
  have hg := h.lt
  have bw : Below w.heap.size w (w.alloc (.cells #[.pointer (some ⟨g, 0, none⟩)] 57)) := (Below.refl _ _).alloc (Nat.le_refl _) _
  have h0 := h.below bw
  have cw : (w.alloc (.cells #[.pointer (some ⟨g, 0, none⟩)] 57)).cell? ⟨w.heap.size, 0, none⟩ = some (.pointer (some ⟨g, 0, none⟩)) := by go_simp
  have HB := rByte_any g D l e _ h0
  unfold upV upE
  by_cases hm : m < vN 1 l e
  · rw [if_pos hm, if_pos hm]
    generalize vN 1 l e = v at HB hm ⊢
    generalize dN 1 l e = l1 at HB ⊢
    generalize eN 1 l e = e1 at HB ⊢
    go_enter Try.func32, Try.ntmps32
    go_wp2_with (first
      | (go_at_call 56; (with_reducible refine HB.mono ?_); rintro en w1 ⟨rfl, R1, k1⟩; have c1 := k1.cell cw (fun h => by have := Option.some.inj h; simp only at this; omega))
      | (go_at_call 57; (with_reducible refine (fail_any g D l1 e1 x w1 R1).mono ?_); rintro en w2 ⟨rfl, R2, k2⟩))
    go_ret
    exact ⟨rfl, R2, grown_trans (grown_trans (below_grown _ bw) k1) k2⟩
  · rw [if_neg hm, if_neg hm]
    generalize vN 1 l e = v at HB hm ⊢
    generalize dN 1 l e = l1 at HB ⊢
    generalize eN 1 l e = e1 at HB ⊢
    go_enter Try.func32, Try.ntmps32
    go_wp2_with (first
      | (go_at_call 56; (with_reducible refine HB.mono ?_); rintro en w1 ⟨rfl, R1, k1⟩; have c1 := k1.cell cw (fun h => by have := Option.some.inj h; simp only at this; omega)))
    go_ret
    exact ⟨rfl, R1, grown_trans (below_grown _ bw) k1⟩
theorem vN_lo (l : List UInt8) (e : Int) : 0 ≤ vN 1 l e ∧ vN 1 l e < 256 := by
  unfold vN
  split
  · have h1 := num_lt (tk 1 l)
    have h2 : (tk 1 l).length ≤ 1 := by unfold tk; split <;> simp; omega
    have h3 : 256 ^ (tk 1 l).length ≤ 256 ^ 1 := Nat.pow_le_pow_right (by omega) h2
    rw [IntWalk.wrap64_in _ (by omega)]
    omega
  · omega
theorem upV_lo (m : Int) (l : List UInt8) (e : Int) (h : 0 ≤ m) : 0 ≤ upV m l e ∧ upV m l e ≤ m := by
  have := vN_lo l e
  unfold upV
  split <;> omega
/-- What is read of a value, what is left, and the error behind it. -/
def rV (l : List UInt8) (e : Int) : V :=
  if upV 3 l e = 1 then ⟨1, vN 1 (dN 1 l e) (upE 3 3 l e), ⟨#[]⟩⟩ else if upV 3 l e = 2 then ⟨2, vN 8 (dN 1 l e) (upE 3 3 l e), ⟨#[]⟩⟩
  else if upV 3 l e = 3 then ⟨3, 0, ⟨(vT (dN 1 l e) (upE 3 3 l e)).toArray⟩⟩ else V0
def rL (l : List UInt8) (e : Int) : List UInt8 :=
  if upV 3 l e = 1 then dN 1 (dN 1 l e) (upE 3 3 l e) else if upV 3 l e = 2 then dN 8 (dN 1 l e) (upE 3 3 l e)
  else if upV 3 l e = 3 then dT (dN 1 l e) (upE 3 3 l e) else dN 1 l e
def rE (l : List UInt8) (e : Int) : Int :=
  if upV 3 l e = 1 then eN 1 (dN 1 l e) (upE 3 3 l e) else if upV 3 l e = 2 then eN 8 (dN 1 l e) (upE 3 3 l e)
  else if upV 3 l e = 3 then eT (dN 1 l e) (upE 3 3 l e) else upE 3 3 l e
/-- A value in a new block, as it is stored. -/
theorem below_val (w : World) (k n : Int) (s : ByteArray) : Below w.heap.size w ((((w.alloc (.cells #[.int .i64 0, .int .i64 0, .string ⟨#[]⟩] 39)).setCell ⟨w.heap.size, 0, none⟩ (.int .i64 k)).setCell ⟨w.heap.size, 1, none⟩ (.int .i64 n)).setCell ⟨w.heap.size, 2, none⟩ (.string s)) :=
  ((((Below.refl _ _).alloc (Nat.le_refl _) _).setCell (Nat.le_refl _) _).setCell (Nat.le_refl _) _).setCell (Nat.le_refl _) _
theorem val_new (w : World) (k n : Int) (s : ByteArray) : VAt ((((w.alloc (.cells #[.int .i64 0, .int .i64 0, .string ⟨#[]⟩] 39)).setCell ⟨w.heap.size, 0, none⟩ (.int .i64 k)).setCell ⟨w.heap.size, 1, none⟩ (.int .i64 n)).setCell ⟨w.heap.size, 2, none⟩ (.string s)) w.heap.size k n s :=
  (VAt.new w 0 0 ⟨#[]⟩).set k n s
theorem below_res {w a b : World} (h : Below w.heap.size a b) (x y z : Value) : Below w.heap.size a (((b.setCell ⟨w.heap.size + 1, 0, none⟩ x).setCell ⟨w.heap.size + 1, 1, none⟩ y).setCell ⟨w.heap.size + 1, 2, none⟩ z) :=
  ((h.setCell (p := ⟨w.heap.size + 1, 0, none⟩) (Nat.le_succ _) _).setCell (p := ⟨w.heap.size + 1, 1, none⟩) (Nat.le_succ _) _).setCell (p := ⟨w.heap.size + 1, 2, none⟩) (Nat.le_succ _) _
/-- The value v is answered; reader g holds the bytes l and the error e; no other block that was there has changed. -/
def SaidV (w : World) (g : Nat) (D : Option Nat) (v : V) (l : List UInt8) (e : Int) (en : Ending) (w' : World) : Prop :=
  en = .returned v.val ∧ Rd w' g D l e ∧ w.grownBy w' (some g)
set_option maxRecDepth 100000 in
set_option maxHeartbeats 400000 in
theorem value_any (g : Nat) (D : Option Nat) (l : List UInt8) (e : Int) (w : World) (h : Rd w g D l e) (hD : ∀ b, D = some b → b < w.heap.size) :
    Calls Try.prog 33 #[.agg #[.pointer (some ⟨g, 0, none⟩)]] w (SaidV w g D (rV l e) (rL l e) (rE l e)) := by
  have hg := h.lt
  obtain ⟨wa, hwa⟩ : ∃ wa, wa = (w.alloc (.cells #[.pointer (some ⟨g, 0, none⟩)] 57)).alloc (.cells #[.int .i64 0, .int .i64 0, .string ⟨#[]⟩] 39) := ⟨_, rfl⟩
  have bw : Below w.heap.size w wa := by rw [hwa]; exact ((Below.refl _ _).alloc (Nat.le_refl _) _).alloc (by simp) _
  have cw : wa.cell? ⟨w.heap.size, 0, none⟩ = some (.pointer (some ⟨g, 0, none⟩)) := by rw [hwa]; go_simp
  have ta : VAt wa (w.heap.size + 1) 0 0 ⟨#[]⟩ := by
    have := VAt.new (w.alloc (.cells #[.pointer (some ⟨g, 0, none⟩)] 57)) 0 0 ⟨#[]⟩
    rw [hwa]
    simpa using this
  have sa : wa.heap.size = w.heap.size + 2 := by rw [hwa]; simp
  have h0 := h.below bw
  have HU := upTo_any g D l e 3 3 wa h0
  obtain ⟨z0, z3⟩ := upV_lo 3 l e (by omega)
  unfold rV rL rE
  generalize upV 3 l e = k at HU z0 z3 ⊢
  generalize dN 1 l e = l1 at HU ⊢
  generalize upE 3 3 l e = e1 at HU ⊢
  have hk : k = 0 ∨ k = 1 ∨ k = 2 ∨ k = 3 := by omega
  clear z0 z3
  rcases hk with rfl | rfl | rfl | rfl
  · go_enter Try.func33, Try.ntmps33
    go_wp2_with (go_at_call 32; (rw [← hwa]; with_reducible refine HU.mono ?_); rintro en w1 ⟨rfl, R1, k1⟩; have t1 := ta.grown k1 (fun h => by have := Option.some.inj h; omega); have c1 := k1.cell cw (fun h => by have := Option.some.inj h; simp only at this; omega); obtain ⟨y0, y1, y2, x0, x1, x2, yl⟩ := id t1; have hs : w.heap.size < w1.heap.size := (by omega); have n1 : ¬ w.heap.size + 1 = w1.heap.size := (by omega); have n2 : ¬ w1.heap.size = w.heap.size + 1 := (by omega))
    have bv := (below_res (Below.refl w.heap.size w1) (.int .i64 0) (.int .i64 0) (.string ⟨#[]⟩)).alloc (by simp; omega) (.cells #[.int .i64 0, .int .i64 0, .string ⟨#[]⟩] 39)
    obtain ⟨r0, r1, r2, -, -, -, -⟩ := (t1.set 0 0 ⟨#[]⟩).alloc (.cells #[.int .i64 0, .int .i64 0, .string ⟨#[]⟩] 39)
    exact bodyPost_ret (v := vv 0 0 ⟨#[]⟩) (by simp [results, Try.results33, go_sem, r0, r1, r2]) rfl ⟨rfl, R1.low hg hD bv, grown_low (grown_trans (below_grown _ bw) k1) bv⟩
  · have HB := rByte_any g D l1 e1
    generalize vN 1 l1 e1 = N at HB ⊢
    generalize dN 1 l1 e1 = l2 at HB ⊢
    generalize eN 1 l1 e1 = e2 at HB ⊢
    go_enter Try.func33, Try.ntmps33
    go_wp2_with (first
      | (go_at_call 32; (rw [← hwa]; with_reducible refine HU.mono ?_); rintro en w1 ⟨rfl, R1, k1⟩; have t1 := ta.grown k1 (fun h => by have := Option.some.inj h; omega); have c1 := k1.cell cw (fun h => by have := Option.some.inj h; simp only at this; omega); obtain ⟨y0, y1, y2, x0, x1, x2, yl⟩ := id t1; have hs : w.heap.size < w1.heap.size := (by omega); have n1 : ¬ w.heap.size + 1 = w1.heap.size := (by omega); have n2 : ¬ w1.heap.size = w.heap.size + 1 := (by omega))
      | (go_at_call 56; (with_reducible refine (HB _ ?_).mono ?_); exact R1.below ((Below.refl _ _).alloc (Nat.le_refl _) _); rintro en w3 ⟨rfl, R3, k3⟩; have t3 := (VAt.new w1 1 0 ⟨#[]⟩).grown k3 (fun h => by have := Option.some.inj h; omega); have t2 := (t1.alloc _).grown k3 (fun h => by have := Option.some.inj h; omega); clear y0 y1 y2 x0 x1 x2 yl; obtain ⟨y0, y1, y2, x0, x1, x2, yl⟩ := id t2; obtain ⟨z0, z1, z2, q0, q1, q2, ql⟩ := id t3))
    have bv1 := (Below.refl w.heap.size w1).alloc (Nat.le_of_lt hs) (.cells #[.int .i64 1, .int .i64 0, .string ⟨#[]⟩] 39)
    have bv := below_res (((Below.refl w.heap.size w3)).setCell (p := ⟨w1.heap.size, 1, none⟩) (Nat.le_of_lt hs) (.int .i64 N)) (.int .i64 1) (.int .i64 N) (.string ⟨#[]⟩)
    obtain ⟨r0, r1, r2, -, -, -, -⟩ := (t2.far (g' := w1.heap.size) n2 1 (.int .i64 N)).set 1 (N) ⟨#[]⟩
    exact bodyPost_ret (v := vv 1 N ⟨#[]⟩) (by simp [results, Try.results33, go_sem, r0, r1, r2]) rfl ⟨rfl, R3.low hg hD bv, grown_low (grown_trans (grown_low (grown_trans (below_grown _ bw) k1) bv1) k3) bv⟩
  · have HB := rInt_any g D l1 e1
    generalize vN 8 l1 e1 = N at HB ⊢
    generalize dN 8 l1 e1 = l2 at HB ⊢
    generalize eN 8 l1 e1 = e2 at HB ⊢
    go_enter Try.func33, Try.ntmps33
    go_wp2_with (first
      | (go_at_call 32; (rw [← hwa]; with_reducible refine HU.mono ?_); rintro en w1 ⟨rfl, R1, k1⟩; have t1 := ta.grown k1 (fun h => by have := Option.some.inj h; omega); have c1 := k1.cell cw (fun h => by have := Option.some.inj h; simp only at this; omega); obtain ⟨y0, y1, y2, x0, x1, x2, yl⟩ := id t1; have hs : w.heap.size < w1.heap.size := (by omega); have n1 : ¬ w.heap.size + 1 = w1.heap.size := (by omega); have n2 : ¬ w1.heap.size = w.heap.size + 1 := (by omega))
      | (go_at_call 58; (with_reducible refine (HB _ ?_).mono ?_); exact R1.below ((Below.refl _ _).alloc (Nat.le_refl _) _); rintro en w3 ⟨rfl, R3, k3⟩; have t3 := (VAt.new w1 2 0 ⟨#[]⟩).grown k3 (fun h => by have := Option.some.inj h; omega); have t2 := (t1.alloc _).grown k3 (fun h => by have := Option.some.inj h; omega); clear y0 y1 y2 x0 x1 x2 yl; obtain ⟨y0, y1, y2, x0, x1, x2, yl⟩ := id t2; obtain ⟨z0, z1, z2, q0, q1, q2, ql⟩ := id t3))
    have bv1 := (Below.refl w.heap.size w1).alloc (Nat.le_of_lt hs) (.cells #[.int .i64 2, .int .i64 0, .string ⟨#[]⟩] 39)
    have bv := below_res (((Below.refl w.heap.size w3)).setCell (p := ⟨w1.heap.size, 1, none⟩) (Nat.le_of_lt hs) (.int .i64 N)) (.int .i64 2) (.int .i64 N) (.string ⟨#[]⟩)
    obtain ⟨r0, r1, r2, -, -, -, -⟩ := (t2.far (g' := w1.heap.size) n2 1 (.int .i64 N)).set 2 (N) ⟨#[]⟩
    exact bodyPost_ret (v := vv 2 N ⟨#[]⟩) (by simp [results, Try.results33, go_sem, r0, r1, r2]) rfl ⟨rfl, R3.low hg hD bv, grown_low (grown_trans (grown_low (grown_trans (below_grown _ bw) k1) bv1) k3) bv⟩
  · have HB := rText_any g D l1 e1
    generalize vT l1 e1 = t at HB ⊢
    generalize dT l1 e1 = l2 at HB ⊢
    generalize eT l1 e1 = e2 at HB ⊢
    go_enter Try.func33, Try.ntmps33
    go_wp2_with (first
      | (go_at_call 32; (rw [← hwa]; with_reducible refine HU.mono ?_); rintro en w1 ⟨rfl, R1, k1⟩; have t1 := ta.grown k1 (fun h => by have := Option.some.inj h; omega); have c1 := k1.cell cw (fun h => by have := Option.some.inj h; simp only at this; omega); obtain ⟨y0, y1, y2, x0, x1, x2, yl⟩ := id t1; have hs : w.heap.size < w1.heap.size := (by omega); have n1 : ¬ w.heap.size + 1 = w1.heap.size := (by omega); have n2 : ¬ w1.heap.size = w.heap.size + 1 := (by omega))
      | (go_at_call 59; (with_reducible refine (HB _ ?_).mono ?_); exact R1.below ((Below.refl _ _).alloc (Nat.le_refl _) _); rintro en w3 ⟨rfl, R3, k3⟩; have t3 := (VAt.new w1 3 0 ⟨#[]⟩).grown k3 (fun h => by have := Option.some.inj h; omega); have t2 := (t1.alloc _).grown k3 (fun h => by have := Option.some.inj h; omega); clear y0 y1 y2 x0 x1 x2 yl; obtain ⟨y0, y1, y2, x0, x1, x2, yl⟩ := id t2; obtain ⟨z0, z1, z2, q0, q1, q2, ql⟩ := id t3))
    have bv1 := (Below.refl w.heap.size w1).alloc (Nat.le_of_lt hs) (.cells #[.int .i64 3, .int .i64 0, .string ⟨#[]⟩] 39)
    have bv := below_res (((Below.refl w.heap.size w3)).setCell (p := ⟨w1.heap.size, 2, none⟩) (Nat.le_of_lt hs) (.string ⟨t.toArray⟩)) (.int .i64 3) (.int .i64 0) (.string ⟨t.toArray⟩)
    obtain ⟨r0, r1, r2, -, -, -, -⟩ := (t2.far (g' := w1.heap.size) n2 2 (.string ⟨t.toArray⟩)).set 3 (0) ⟨t.toArray⟩
    exact bodyPost_ret (v := vv 3 0 ⟨t.toArray⟩) (by simp [results, Try.results33, go_sem, r0, r1, r2]) rfl ⟨rfl, R3.low hg hD bv, grown_low (grown_trans (grown_low (grown_trans (below_grown _ bw) k1) bv1) k3) bv⟩
end Go.Proofs.Ytpphlmbhonaglaa
