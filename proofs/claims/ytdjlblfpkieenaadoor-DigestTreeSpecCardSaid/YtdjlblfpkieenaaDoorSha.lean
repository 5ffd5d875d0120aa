/- SHA-256 as plain Lean: words of 32 bits are bit vectors, bytes lie in lists. -/
import Derived.Test.YtdjlblfpkieenaaDoorProg
import Derived.KernelRfl
namespace Go.Proofs.YtdjlblfpkieenaaDoor
set_option linter.unusedVariables false

abbrev U := BitVec 32
def rr (x : U) (n : Nat) : U := (x >>> n) ||| (x <<< (32 - n))
/-- The numbers K. -/
def ks : List U := [
  0x428a2f98, 0x71374491, 0xb5c0fbcf, 0xe9b5dba5, 0x3956c25b, 0x59f111f1, 0x923f82a4, 0xab1c5ed5,
  0xd807aa98, 0x12835b01, 0x243185be, 0x550c7dc3, 0x72be5d74, 0x80deb1fe, 0x9bdc06a7, 0xc19bf174,
  0xe49b69c1, 0xefbe4786, 0x0fc19dc6, 0x240ca1cc, 0x2de92c6f, 0x4a7484aa, 0x5cb0a9dc, 0x76f988da,
  0x983e5152, 0xa831c66d, 0xb00327c8, 0xbf597fc7, 0xc6e00bf3, 0xd5a79147, 0x06ca6351, 0x14292967,
  0x27b70a85, 0x2e1b2138, 0x4d2c6dfc, 0x53380d13, 0x650a7354, 0x766a0abb, 0x81c2c92e, 0x92722c85,
  0xa2bfe8a1, 0xa81a664b, 0xc24b8b70, 0xc76c51a3, 0xd192e819, 0xd6990624, 0xf40e3585, 0x106aa070,
  0x19a4c116, 0x1e376c08, 0x2748774c, 0x34b0bcb5, 0x391c0cb3, 0x4ed8aa4a, 0x5b9cca4f, 0x682e6ff3,
  0x748f82ee, 0x78a5636f, 0x84c87814, 0x8cc70208, 0x90befffa, 0xa4506ceb, 0xbef9a3f7, 0xc67178f2]
def kk (t : Nat) : U := ks.getD t 0

/-- The state: h(0) to h(7). -/
structure S8 where
  a : U
  b : U
  c : U
  d : U
  e : U
  f : U
  g : U
  h : U
def s0 : S8 := ⟨0x6a09e667, 0xbb67ae85, 0x3c6ef372, 0xa54ff53a, 0x510e527f, 0x9b05688c, 0x1f83d9ab, 0x5be0cd19⟩

def pOf (k w : U) (s : S8) : U := s.h + (rr s.e 6 ^^^ rr s.e 11 ^^^ rr s.e 25) + ((s.e &&& s.f) ^^^ (~~~s.e &&& s.g)) + k + w
def qOf (s : S8) : U := (rr s.a 2 ^^^ rr s.a 13 ^^^ rr s.a 22) + ((s.a &&& s.b) ^^^ (s.a &&& s.c) ^^^ (s.b &&& s.c))
/-- One round. -/
def rnd (k w : U) (s : S8) : S8 := ⟨pOf k w s + qOf s, s.a, s.b, s.c, s.d + pOf k w s, s.e, s.f, s.g⟩
/-- t rounds. -/
def rounds (ws : List U) : Nat → S8 → S8
  | 0, s => s
  | t + 1, s => rnd (kk t) (ws.getD t 0) (rounds ws t s)

/-- A byte as a word. -/
def bw (d : UInt8) : U := BitVec.ofNat 32 d.toNat
/-- The number that the k bytes from i on make. -/
def pw (b : List UInt8) (i : Nat) : Nat → U
  | 0 => 0
  | k + 1 => pw b i k <<< 8 ||| bw (b.getD (i + k) 0)
/-- The word whose bytes begin at i. -/
def wordAt (b : List UInt8) (i : Nat) : U := pw b i 4
def next (l : List U) (t : Nat) : U :=
  l.getD (t - 16) 0 + (rr (l.getD (t - 15) 0) 7 ^^^ rr (l.getD (t - 15) 0) 18 ^^^ (l.getD (t - 15) 0) >>> 3) + l.getD (t - 7) 0 + (rr (l.getD (t - 2) 0) 17 ^^^ rr (l.getD (t - 2) 0) 19 ^^^ (l.getD (t - 2) 0) >>> 10)
/-- w(0) to w(n - 1) of a block. -/
def sched (b : List UInt8) : Nat → List U
  | 0 => []
  | t + 1 => sched b t ++ [if t < 16 then wordAt b (4 * t) else next (sched b t) t]
theorem sched_length (b : List UInt8) (n : Nat) : (sched b n).length = n := by
  induction n with
  | zero => rfl
  | succ n ih => simp [sched, ih]

def add8 (s z : S8) : S8 := ⟨s.a + z.a, s.b + z.b, s.c + z.c, s.d + z.d, s.e + z.e, s.f + z.f, s.g + z.g, s.h + z.h⟩
/-- The state after a block. -/
def block (b : List UInt8) (s : S8) : S8 := add8 s (rounds (sched b 64) 64 s)
/-- What f makes of n blocks, one after the other. -/
def blocksW (f : List UInt8 → S8 → S8) : Nat → List UInt8 → S8 → S8
  | 0, _, s => s
  | n + 1, b, s => blocksW f n (b.drop 64) (f (b.take 64) s)
theorem blocksW_step (f : List UInt8 → S8 → S8) (n : Nat) (p : List UInt8) (s : S8) : blocksW f (n + 1) p s = blocksW f n (p.drop 64) (f (p.take 64) s) := rfl
theorem blocksW_zero (f : List UInt8 → S8 → S8) (p : List UInt8) (s : S8) : blocksW f 0 p s = s := rfl
/-- n blocks, then m blocks. -/
theorem blocksW_append (f : List UInt8 → S8 → S8) (n m : Nat) : ∀ (p q : List UInt8) (s : S8), p.length = 64 * n → blocksW f (n + m) (p ++ q) s = blocksW f m q (blocksW f n p s) := by
  induction n with
  | zero =>
    intro p q s hp
    have : p = [] := List.length_eq_zero_iff.1 (by omega)
    subst this
    rw [Nat.zero_add, List.nil_append, blocksW_zero]
  | succ n ih =>
    intro p q s hp
    rw [show n + 1 + m = (n + m) + 1 by omega, blocksW_step, blocksW_step, ← ih _ _ _ (by rw [List.length_drop]; omega)]
    rw [List.drop_append_of_le_length (by omega), List.take_append_of_le_length (by omega)]
/-- The state after n blocks. -/
def blocks (n : Nat) (p : List UInt8) (s : S8) : S8 := blocksW block n p s
theorem blocks_step (n : Nat) (p : List UInt8) (s : S8) : blocks (n + 1) p s = blocks n (p.drop 64) (block (p.take 64) s) := blocksW_step block n p s
theorem blocks_zero (p : List UInt8) (s : S8) : blocks 0 p s = s := blocksW_zero block p s
theorem blocks_append (n m : Nat) (p q : List UInt8) (s : S8) (hp : p.length = 64 * n) : blocks (n + m) (p ++ q) s = blocks m q (blocks n p s) := blocksW_append block n m p q s hp

/-- The bytes of a number, the most significant of k bytes first. -/
def be (n : Nat) : Nat → List UInt8
  | 0 => []
  | k + 1 => UInt8.ofNat (n / 256 ^ k % 256) :: be n k
/-- The number of zeros behind n bytes and 80. -/
def gap (n : Nat) : Nat := (119 - n % 64) % 64
def pad (l : List UInt8) : List UInt8 := l ++ 128 :: (List.replicate (gap l.length) 0 ++ be (l.length * 8 % 18446744073709551616) 8)

def u4 (x : U) : List UInt8 := [UInt8.ofNat (x >>> 24).toNat, UInt8.ofNat (x >>> 16).toNat, UInt8.ofNat (x >>> 8).toNat, UInt8.ofNat x.toNat]
def bytes8 (s : S8) : List UInt8 := u4 s.a ++ u4 s.b ++ u4 s.c ++ u4 s.d ++ u4 s.e ++ u4 s.f ++ u4 s.g ++ u4 s.h
theorem bytes8_length (s : S8) : (bytes8 s).length = 32 := rfl
/-- The hash of bytes. -/
def sha (l : List UInt8) : List UInt8 := bytes8 (blocks ((pad l).length / 64) (pad l) s0)
theorem sha_length (l : List UInt8) : (sha l).length = 32 := rfl

theorem sha_abc : (sha [97, 98, 99]).take 4 = [0xba, 0x78, 0x16, 0xbf] := by decide +kernel
theorem sha_none : (sha []).take 4 = [0xe3, 0xb0, 0xc4, 0x42] := by decide +kernel
end Go.Proofs.YtdjlblfpkieenaaDoor
