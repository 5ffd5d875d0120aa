/- Links in plain words. (Nothing here speaks of the program.) -/
import Derived.Test.YtojijebmipgeeaaMem
namespace Go.Proofs.Ytojijebmipgeeaa
set_option linter.unusedVariables false

/-- A packet. -/
structure Pk where
  fr : Int
  to : Int
  da : List UInt8
instance : Inhabited Pk := ⟨⟨0, 0, []⟩⟩
def pk0 : Pk := ⟨0, 0, []⟩
/-- Links: the queue, and the pairs that are apart. -/
structure Nt where
  q : List Pk
  ap : List (Int × Int)
def nt0 : Nt := ⟨[], []⟩
def site (n : Int) : Bool := decide (0 ≤ n ∧ n < 16)
/-- There is a link between two numbers. -/
def talk (a b : Int) : Bool := site a && site b && !(a == b)
def okp (p : Pk) : Bool := talk p.fr p.to && decide (p.da.length ≤ 1048576)
def btw (a b : Int) : Int × Int := (min a b, max a b)
def lsp (x y : Int × Int) : Bool := decide (x.1 < y.1 ∨ x.1 = y.1 ∧ x.2 < y.2)
/-- A pair of parties, the lesser one first. -/
def okr (x : Int × Int) : Bool := site x.1 && site x.2 && decide (x.1 < x.2)
/-- The k-th pair is right. -/
def apa (l : List (Int × Int)) (k : Nat) : Bool := okr (l.getD k (0, 0)) && (k == 0 || lsp (l.getD (k - 1) (0, 0)) (l.getD k (0, 0)))
def apk (l : List (Int × Int)) : Bool := (List.range l.length).all (apa l)
def vld (n : Nt) : Bool := decide (n.q.length ≤ 4096) && n.q.all okp && apk n.ap
def chk (n : Nt) : Int := if vld n then 0 else 90
theorem chk_of {n : Nt} {b : Bool} (h : vld n = b) : chk n = if b then 0 else 90 := by
  unfold chk
  rw [h]
theorem chk_cases (n : Nt) : (chk n = 0 ∧ vld n = true) ∨ (chk n = 90 ∧ vld n = false) := by
  unfold chk
  cases vld n <;> simp

/-- Sending. -/
def wi (n : Nt) (p : Pk) : Nt := ⟨n.q ++ [p], n.ap⟩
def full (n : Nt) : Bool := decide (n.q.length = 4096)
/-- With a further packet. -/
def wte (n : Nt) : Int := if full n then 2 else 0
def wt (n : Nt) (p : Pk) : Nt := if full n then nt0 else wi n p
def sne (n : Nt) (p : Pk) : Int := if vld n && okp p then wte n else 90
def sn (n : Nt) (p : Pk) : Nt := if vld n && okp p then wt n p else nt0
/-- The error of asking for a packet. -/
def inq (n : Nt) (i : Int) : Bool := decide (0 ≤ i ∧ i < (n.q.length : Int))
def hle (n : Nt) (i : Int) : Int := if vld n then (if inq n i then 0 else 1) else 90
def can (n : Nt) (i : Int) : Bool := vld n && inq n i
theorem hle_cases (n : Nt) (i : Int) : (can n i = true ∧ hle n i = 0) ∨ (can n i = false ∧ (hle n i = 90 ∨ hle n i = 1)) := by
  unfold can hle
  cases vld n <;> cases inq n i <;> simp
/-- Without a packet. -/
def wo (n : Nt) (i : Nat) : Nt := ⟨n.q.take i ++ n.q.drop (i + 1), n.ap⟩
def los (n : Nt) (i : Int) : Nt := if can n i then wo n i.toNat else nt0
/-- The link of a packet is cut. -/
def cutd (n : Nt) (p : Pk) : Bool := n.ap.any (fun y => btw p.fr p.to == y)
def ati (n : Nt) (i : Int) : Pk := n.q.getD i.toNat pk0
def dlp (n : Nt) (i : Int) : Pk := if can n i then (if cutd n (ati n i) then pk0 else ati n i) else pk0
def rpe (n : Nt) (i : Int) : Int := if can n i then wte n else hle n i
def rp (n : Nt) (i : Int) : Nt := if can n i then wt n (ati n i) else nt0
/-- Cutting. -/
def cte (n : Nt) (a b : Int) : Int := if vld n then (if talk a b then 0 else 1) else 90
def cmpp (x y : Int × Int) : Int := if x.1 < y.1 then -1 else if y.1 < x.1 then 1 else if x.2 < y.2 then -1 else if y.2 < x.2 then 1 else 0
def oth (l : List (Int × Int)) (x : Int × Int) : List (Int × Int) := l.filter (fun y => !(y == x))
def srt (l : List (Int × Int)) : List (Int × Int) := l.mergeSort (fun x y => !lsp y x)
def ctl (l : List (Int × Int)) (x : Int × Int) (on : Bool) : List (Int × Int) := if on then srt (oth l x ++ [x]) else oth l x
def ct (n : Nt) (a b : Int) (on : Bool) : Nt := if vld n && talk a b then ⟨n.q, ctl n.ap (btw a b) on⟩ else nt0

/-- Equal packets, equal links. -/
def spk (p r : Pk) : Bool := p.fr == r.fr && p.to == r.to && p.da == r.da
def smq (a b : List Pk) : Bool := decide (a.length = b.length) && (List.range a.length).all (fun k => spk (a.getD k pk0) (b.getD k pk0))
def smn (a b : Nt) : Bool := smq a.q b.q && decide (a.ap.length = b.ap.length) && (List.range a.ap.length).all (fun k => a.ap.getD k (0, 0) == b.ap.getD k (0, 0))
theorem spk_refl (p : Pk) : spk p p = true := by simp [spk]
theorem smn_refl (a : Nt) : smn a a = true := by simp [smn, smq, spk_refl]
def few (n : Nt) : Bool := decide (n.q.length ≤ 40) && decide (n.ap.length ≤ 40)
end Go.Proofs.Ytojijebmipgeeaa
