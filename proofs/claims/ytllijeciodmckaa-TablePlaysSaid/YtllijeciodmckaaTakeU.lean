/-
  table.Take, whether the row is there or not; reading on beside a block that is written.
-/
import Derived.Test.YtllijeciodmckaaGoodF
namespace Go.Proofs.Ytllijeciodmckaa
open Go.RowKit
def takeE (ky : Nat) (v : V) (rs : List (List V)) : Int := if hasN ky v rs = true then 0 else 2
def takeR (ky : Nat) (v : V) (rs : List (List V)) : List (List V) := if hasN ky v rs = true then takeN ky v rs else rs
theorem take_u (w : World) (l : List UInt8) (co : Option Addr) (cn cc : Nat) (ky : Nat) (only : Bool) (ro : Option Addr) (rn rc : Nat) (cs : List Co) (h0 : 0 < cn) (hcn : cn ≤ 100) (B : Nat) (rs : List (List V)) (h : IsT w B co cn cc cs ro rn rc rs) (v : V) (hS : Srt ky rs) (hn : rn ≤ 300) (hfl : ∀ x ∈ rs, 0 < x.length ∧ x.length ≤ 100) :
    Calls Try.prog 23 #[tbV l co cn cc (ky : Nat) only ro rn rc, vv v.k v.n v.s] w fun e w' => ∃ co2 cc2 ro2 rn2 rc2 pa pn pc, e = .returned (.tuple #[tbV l co2 cn cc2 (ky : Nat) only ro2 rn2 rc2, .slice pa pn pc, .int .i64 (takeE ky v rs)]) ∧ IsT w' w.heap.size co2 cn cc2 cs ro2 rn2 rc2 (takeR ky v rs) ∧ Below w.heap.size w w' := by
  refine (take_any w l co cn cc ky only ro rn rc cs h0 hcn B rs h v hS hn hfl).mono ?_
  rintro e w' ⟨hN, hY, hB⟩
  unfold takeE takeR
  cases hh : hasN ky v rs with
  | false =>
    obtain ⟨co2, cc2, ro2, rn2, rc2, rfl, hT⟩ := hN hh
    exact ⟨co2, cc2, ro2, rn2, rc2, _, _, _, rfl, hT, hB⟩
  | true =>
    obtain ⟨x, hx⟩ := hasN_at hh
    obtain ⟨co2, cc2, ro2, rn2, rc2, g, c, rfl, hT, _, _⟩ := hY x hh hx
    exact ⟨co2, cc2, ro2, rn2, rc2, _, _, _, rfl, hT, hB⟩
/-- Block g was made; what reads now reads on whatever is written there. -/
theorem below_new {w w' : World} {o : Obj} (h : (w.alloc o).grownBy w' (some w.heap.size)) : Below w.heap.size w w' :=
  ((Below.refl w.heap.size w).alloc (Nat.le_refl _) o).grown h (by rw [World.size_alloc]; omega) (fun z hz => by cases hz; exact Nat.le_refl _)
theorem below_newB {B : Nat} {w w' : World} {o : Obj} (h : (w.alloc o).grownBy w' (some w.heap.size)) (hB : B ≤ w.heap.size) : Below B w w' := (below_new h).mono hB
/-- The row that fits, in its own block. -/
theorem TxtR.own {α : Type} {E : Enc α} {w : World} {e : TypeId} {B : Nat} {ao : Option Addr} {n c : Nat} {l : List α} (h : TxtR E w e B ao n c l) (hn : 0 < n) : ∃ g, ao = some ⟨g, 0, none⟩ ∧ OwnR E w e g n c l ∧ B ≤ g := by
  rcases h.either with ⟨-, rfl, -⟩ | h
  · omega
  · exact h
/-- A value of a row of the call's own. -/
theorem own_vcells {w : World} {e : TypeId} {g n cap : Nat} {l : List V} (h : OwnR EV w e g n cap l) (k : Nat) (x : V) (hx : l[k]? = some x) : w.cell? ⟨g, k * 3, none⟩ = some (.int .i64 x.k) ∧ w.cell? ⟨g, k * 3 + 1, none⟩ = some (.int .i64 x.n) ∧ w.cell? ⟨g, k * 3 + 2, none⟩ = some (.string x.s) := by
  have := cells_v (off := 0) (fun i u hu => by rw [Nat.zero_add]; exact h.cell i u hu) k x hx
  simpa using this
/-- What Put answers of a row that fits, and what then stands. -/
theorem put_fit (cs : List Co) (hk : ∀ x ∈ cs, x.kind = 1 ∨ x.kind = 2 ∨ x.kind = 3) (K : Nat) (n : Int) (rs : List (List V)) (hl : rs.length < 200) :
    (putE cs K (fitRow cs n) rs = 0 ∧ hasN K (kOf K (fitRow cs n)) rs = false ∧ putR cs K (fitRow cs n) rs = putN K (fitRow cs n) rs) ∨ (putE cs K (fitRow cs n) rs = 7 ∧ hasN K (kOf K (fitRow cs n)) rs = true ∧ putR cs K (fitRow cs n) rs = rs) := by
  have h := putE_fit cs hk K n rs hl
  unfold putR
  cases q : hasN K (kOf K (fitRow cs n)) rs with
  | false =>
    rw [q, if_neg (by decide)] at h
    exact .inl ⟨h, rfl, by rw [h, if_pos rfl]⟩
  | true =>
    rw [q, if_pos rfl] at h
    exact .inr ⟨h, rfl, by rw [h, if_neg (by decide)]⟩
end Go.Proofs.Ytllijeciodmckaa
