/-
  Hexadecimal digits, plain; an element of an array of bytes, a byte of a constant text.
-/
import Derived.Test.YtlcfjiiejmnghaaDoorU32
import Derived.Test.YtlcfjiiejmnghaaDoorBytes
namespace Go.Proofs.YtlcfjiiejmnghaaDoor
open Go.RowKit

theorem run_index_bytes {P : Program} {t e : TypeId} {n : Nat} (ht : P.underlying t = some (.array n e)) (he : P.underlying e = some (.int .u8)) (hs : (P.info? e).map (·.size) = some 1) (l : List UInt8) (hl : l.length = n) (j : Nat) (hj : j < n) (k : IntKind) (w : World) :
    (Instr.index t (.agg (bcs l).toArray) (.int k j)).run P w = .ok (.int .u8 (ub (l.getD j 0))) w := by
  obtain ⟨i, hi, hsz⟩ := Option.map_eq_some_iff.1 hs
  have hget : (bcs l)[j]? = some (.int .u8 (ub (l[j]?.getD 0))) := by
    simp [bcs, bc, ub, show j < l.length by omega]
  simp [Instr.index, asIntOf, run_underlying ht, run_underlying he, part, isAgg, sizeOf, typeInfo, hi, hsz, hget, hj]

def digs : List UInt8 := [48, 49, 50, 51, 52, 53, 54, 55, 56, 57, 97, 98, 99, 100, 101, 102]
def dig (n : Nat) : UInt8 := digs.getD n 0
def hx (l : List UInt8) : List UInt8 := l.flatMap fun x => [dig (x.toNat / 16), dig (x.toNat % 16)]
theorem hx_length (l : List UInt8) : (hx l).length = 2 * l.length := by
  induction l with
  | nil => rfl
  | cons a l ih =>
    have : hx (a :: l) = [dig (a.toNat / 16), dig (a.toNat % 16)] ++ hx l := rfl
    rw [this, List.length_append, ih]
    simp
    omega
theorem dig_cut : ∀ p : Fin 16, (({ data := #[48, 49, 50, 51, 52, 53, 54, 55, 56, 57, 97, 98, 99, 100, 101, 102] } : ByteArray).extract p.1 (p.1 + 1)).data.toList = [dig p.1] := by decide +kernel
theorem dig_at : ∀ p : Fin 16, ({ data := #[48, 49, 50, 51, 52, 53, 54, 55, 56, 57, 97, 98, 99, 100, 101, 102] } : ByteArray)[p.1]? = some (dig p.1) := by decide +kernel
theorem hx_snoc (l : List UInt8) (t : Nat) (ht : t < l.length) : hx (l.take (t + 1)) = hx (l.take t) ++ [dig ((l.getD t 0).toNat / 16), dig ((l.getD t 0).toNat % 16)] := by
  rw [List.take_succ_eq_append_getElem ht]
  unfold hx
  rw [List.flatMap_append]
  simp [List.getD, ht]
theorem run_index_digit {P : Program} {t : TypeId} (ht : P.underlying t = some .string) (p : Nat) (hp : p ≤ 15) (k : IntKind) (w : World) :
    (Instr.index t (.string { data := #[48, 49, 50, 51, 52, 53, 54, 55, 56, 57, 97, 98, 99, 100, 101, 102] }) (.int k p)).run P w = .ok (.int .u8 (ub (dig p))) w := by
  have h := dig_at ⟨p, by omega⟩
  simp only at h
  simp [Instr.index, asIntOf, run_underlying ht, h, ub]
end Go.Proofs.YtlcfjiiejmnghaaDoor
