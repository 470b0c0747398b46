/-
  SHA-256 as plain functions on lists of bytes, and its value at one text.
-/
import Derived.KernelRfl
namespace Go.Proofs.YtpphlmbhonaglaaDoor

def rr (x : UInt32) (n : Nat) : UInt32 := UInt32.ofNat (x.toNat / 2 ^ n) ||| UInt32.ofNat (x.toNat * 2 ^ (32 - n))
def sr (x : UInt32) (n : Nat) : UInt32 := UInt32.ofNat (x.toNat / 2 ^ n)
def bs0 (x : UInt32) : UInt32 := rr x 7 ^^^ rr x 18 ^^^ sr x 3
def bs1 (x : UInt32) : UInt32 := rr x 17 ^^^ rr x 19 ^^^ sr x 10
def cs1 (e : UInt32) : UInt32 := rr e 6 ^^^ rr e 11 ^^^ rr e 25
def cs0 (a : UInt32) : UInt32 := rr a 2 ^^^ rr a 13 ^^^ rr a 22
def ch (e f g : UInt32) : UInt32 := (e &&& f) ^^^ (~~~e &&& g)
def mj (a b c : UInt32) : UInt32 := ((a &&& b) ^^^ (a &&& c)) ^^^ (b &&& c)
structure St where
  a : UInt32
  b : UInt32
  c : UInt32
  d : UInt32
  e : UInt32
  f : UInt32
  g : UInt32
  h : UInt32
def St.one (s : St) (k w : UInt32) : UInt32 := s.h + cs1 s.e + ch s.e s.f s.g + k + w
def St.two (s : St) : UInt32 := cs0 s.a + mj s.a s.b s.c
def St.step (s : St) (k w : UInt32) : St := ⟨s.one k w + s.two, s.a, s.b, s.c, s.d + s.one k w, s.e, s.f, s.g⟩
def K64 : List UInt32 := [
    0x428a2f98, 0x71374491, 0xb5c0fbcf, 0xe9b5dba5, 0x3956c25b, 0x59f111f1, 0x923f82a4, 0xab1c5ed5,
    0xd807aa98, 0x12835b01, 0x243185be, 0x550c7dc3, 0x72be5d74, 0x80deb1fe, 0x9bdc06a7, 0xc19bf174,
    0xe49b69c1, 0xefbe4786, 0x0fc19dc6, 0x240ca1cc, 0x2de92c6f, 0x4a7484aa, 0x5cb0a9dc, 0x76f988da,
    0x983e5152, 0xa831c66d, 0xb00327c8, 0xbf597fc7, 0xc6e00bf3, 0xd5a79147, 0x06ca6351, 0x14292967,
    0x27b70a85, 0x2e1b2138, 0x4d2c6dfc, 0x53380d13, 0x650a7354, 0x766a0abb, 0x81c2c92e, 0x92722c85,
    0xa2bfe8a1, 0xa81a664b, 0xc24b8b70, 0xc76c51a3, 0xd192e819, 0xd6990624, 0xf40e3585, 0x106aa070,
    0x19a4c116, 0x1e376c08, 0x2748774c, 0x34b0bcb5, 0x391c0cb3, 0x4ed8aa4a, 0x5b9cca4f, 0x682e6ff3,
    0x748f82ee, 0x78a5636f, 0x84c87814, 0x8cc70208, 0x90befffa, 0xa4506ceb, 0xbef9a3f7, 0xc67178f2]
def kk (i : Nat) : UInt32 := K64.getD i 0
def ext (W : List UInt32) (i : Nat) : UInt32 := bs1 (W.getD (i - 2) 0) + W.getD (i - 7) 0 + bs0 (W.getD (i - 15) 0) + W.getD (i - 16) 0
def sched (W : List UInt32) : Nat → List UInt32
  | 0 => W
  | n + 1 => sched W n ++ [ext (sched W n) (16 + n)]
def be4 (a b c d : UInt8) : UInt32 := UInt32.ofNat (a.toNat * 16777216 + b.toNat * 65536 + c.toNat * 256 + d.toNat)
def word (l : List UInt8) (i : Nat) : UInt32 := be4 (l.getD (4 * i) 0) (l.getD (4 * i + 1) 0) (l.getD (4 * i + 2) 0) (l.getD (4 * i + 3) 0)
def words (l : List UInt8) (n : Nat) : List UInt32 := (List.range n).map (word l)
def rounds (W : List UInt32) (s : St) : Nat → St
  | 0 => s
  | n + 1 => (rounds W s n).step (kk n) (W.getD n 0)
def St.add (s t : St) : St := ⟨s.a + t.a, s.b + t.b, s.c + t.c, s.d + t.d, s.e + t.e, s.f + t.f, s.g + t.g, s.h + t.h⟩
def St.mix (s : St) (l : List UInt8) : St := s.add (rounds (sched (words l 16) 48) s 64)
def H0 : St := ⟨0x6a09e667, 0xbb67ae85, 0x3c6ef372, 0xa54ff53a, 0x510e527f, 0x9b05688c, 0x1f83d9ab, 0x5be0cd19⟩
def St.l (s : St) : List UInt32 := [s.a, s.b, s.c, s.d, s.e, s.f, s.g, s.h]
def blocks (l : List UInt8) (s : St) : Nat → St
  | 0 => s
  | n + 1 => (blocks l s n).mix (l.drop (64 * n))
def be (k x : Nat) : List UInt8 := (List.range k).map fun i => UInt8.ofNat (x / 256 ^ (k - 1 - i))
def padding (n : Nat) : List UInt8 := 0x80 :: (List.replicate ((119 - n % 64) % 64) 0 ++ be 8 (8 * n))
def padded (l : List UInt8) : List UInt8 := l ++ padding l.length
def sha (l : List UInt8) : List UInt8 := ((blocks (padded l) H0 ((padded l).length / 64)).l.map fun x => be 4 x.toNat).flatten

theorem sha_abc : sha [97, 98, 99] = [186, 120, 22, 191, 143, 1, 207, 234, 65, 65, 64, 222, 93, 174, 34, 35, 176, 3, 97, 163, 150, 23, 122, 156, 180, 16, 255, 97, 242, 0, 21, 173] := by decide +kernel
theorem K64_length : K64.length = 64 := rfl
theorem sched_length (W : List UInt32) : ∀ n, (sched W n).length = W.length + n
  | 0 => rfl
  | n + 1 => by rw [sched, List.length_append, sched_length W n]; rfl
theorem words_length (l : List UInt8) (n : Nat) : (words l n).length = n := by simp [words]
theorem words_snoc (l : List UInt8) (n : Nat) : words l (n + 1) = words l n ++ [word l n] := by simp [words, List.range_succ]
theorem St.l_length (s : St) : s.l.length = 8 := rfl
theorem be_length (k x : Nat) : (be k x).length = k := by simp [be]
theorem sha_length (l : List UInt8) : (sha l).length = 32 := by simp [sha, St.l, be_length]
end Go.Proofs.YtpphlmbhonaglaaDoor
