/- What numeral's calls give, as functions over lists of bytes. No program is named. -/
import Derived.Test.YtpbbgmfjdachnaaDoorCmp
import Derived.Lib.SlTrimSet
namespace Go.Proofs.YtpbbgmfjdachnaaDoor

def isDig (c : UInt8) : Bool := decide (48 ≤ c.toNat) && decide (c.toNat ≤ 57)
def isBlank (c : UInt8) : Bool := c == 32 || c == 9
def atB (l : List UInt8) (i : Nat) : UInt8 := l.getD i 0
def spanN (p : UInt8 → Bool) (l : List UInt8) : Nat := (l.takeWhile p).length

theorem spanN_le (p : UInt8 → Bool) (l : List UInt8) : spanN p l ≤ l.length := by
  unfold spanN; exact (List.takeWhile_sublist p).length_le
theorem take_spanN (p : UInt8 → Bool) (l : List UInt8) : l.take (spanN p l) = l.takeWhile p := by
  unfold spanN
  conv => lhs; rw [← List.takeWhile_append_dropWhile (p := p) (l := l)]
  rw [List.take_left']
  simp
theorem drop_spanN (p : UInt8 → Bool) (l : List UInt8) : l.drop (spanN p l) = l.dropWhile p := by
  have h := List.takeWhile_append_dropWhile (p := p) (l := l)
  unfold spanN
  conv => lhs; rw [← h]
  rw [List.drop_left']
  simp

/-- A run that goes on. -/
theorem spanN_on {p : UInt8 → Bool} : ∀ {l : List UInt8} {k : Nat}, k ≤ spanN p l → p 0 = false → p (atB l k) = true → k + 1 ≤ spanN p l
  | [], k, _, h0, h => by simp [atB, h0] at h
  | x :: r, 0, _, h0, h => by
    have : p x = true := by simpa [atB] using h
    simp [spanN, List.takeWhile, this]
  | x :: r, k + 1, hk, h0, h => by
    by_cases e : p x = true
    · have hk' : k ≤ spanN p r := by simp [spanN, List.takeWhile, e] at hk; simpa [spanN] using hk
      have := spanN_on (l := r) (k := k) hk' h0 (by simpa [atB] using h)
      simp [spanN, List.takeWhile, e] at this ⊢
      exact this
    · simp [spanN, List.takeWhile, e] at hk
/-- A run that ends. -/
theorem spanN_end {p : UInt8 → Bool} : ∀ {l : List UInt8} {k : Nat}, k ≤ spanN p l → p (atB l k) = false → spanN p l = k
  | [], k, hk, h => by simp [spanN] at hk ⊢; omega
  | x :: r, 0, _, h => by
    have : p x = false := by simpa [atB] using h
    simp [spanN, List.takeWhile, this]
  | x :: r, k + 1, hk, h => by
    by_cases e : p x = true
    · have hk' : k ≤ spanN p r := by simp [spanN, List.takeWhile, e] at hk; simpa [spanN] using hk
      have := spanN_end (l := r) (k := k) hk' (by simpa [atB] using h)
      simp [spanN, List.takeWhile, e] at this ⊢
      exact this
    · simp [spanN, List.takeWhile, e] at hk

/-- Does l begin with a word of small letters? -/
def begW : List UInt8 → List UInt8 → Bool
  | [], _ => true
  | c :: w, l => match l with
    | [] => false
    | x :: l => (x ||| 32 == c) && begW w l
def begB (l w : List UInt8) : Bool := begW w l

/-- What a text's head says. -/
structure Hd where
  cls : Nat
  neg : Bool
  whole : List UInt8
  frac : List UInt8
  exp : Int
  size : Nat

def Hd.none : Hd := ⟨0, false, [], [], 0, 0⟩

def wInfinity : List UInt8 := [105, 110, 102, 105, 110, 105, 116, 121]
def wInf : List UInt8 := [105, 110, 102]
def wNan : List UInt8 := [110, 97, 110]

/-- The class of a text that begins with a word, and the word's length. -/
def wordS (l : List UInt8) (neg : Bool) : Nat × Nat :=
  if begB l wInfinity then (if neg then 2 else 4, 8)
  else if begB l wInf then (if neg then 2 else 4, 3)
  else if begB l wNan then (1, 3)
  else (0, 0)

def satS : Nat → List UInt8 → Nat
  | e, [] => e
  | e, c :: r => satS (min (10 * e + (c.toNat - 48)) 1099511627776) r

def expSg (l : List UInt8) : Nat := if atB l 1 == 45 || atB l 1 == 43 then 1 else 0
/-- An exponent: its value, its length. -/
def expS (l : List UInt8) : Int × Nat :=
  if atB l 0 == 101 || atB l 0 == 69 then
    if spanN isDig (l.drop (1 + expSg l)) = 0 then (0, 0)
    else (if atB l 1 == 45 then - (satS 0 ((l.drop (1 + expSg l)).takeWhile isDig) : Int) else satS 0 ((l.drop (1 + expSg l)).takeWhile isDig), 1 + expSg l + spanN isDig (l.drop (1 + expSg l)))
  else (0, 0)

/-- Behind the blanks. -/
def signN (r : List UInt8) (g : Bool) : Nat := if atB r 0 == 45 || (atB r 0 == 43 && g) then 1 else 0
/-- A number's text: the digits, the point, the digits, the exponent; base is where it begins. -/
def fracS (r2 : List UInt8) : List UInt8 := if atB r2 0 == 46 then (r2.drop 1).takeWhile isDig else []
def fracN (r2 : List UInt8) : Nat := if atB r2 0 == 46 then 1 + spanN isDig (r2.drop 1) else 0
def numberS (r1 : List UInt8) (g neg : Bool) (base : Nat) : Hd :=
  if r1.takeWhile isDig = [] ∧ fracS (r1.dropWhile isDig) = [] then Hd.none
  else if g then
    ⟨3, neg, r1.takeWhile isDig, fracS (r1.dropWhile isDig), (expS ((r1.dropWhile isDig).drop (fracN (r1.dropWhile isDig)))).1, base + spanN isDig r1 + fracN (r1.dropWhile isDig) + (expS ((r1.dropWhile isDig).drop (fracN (r1.dropWhile isDig)))).2⟩
  else ⟨3, neg, r1.takeWhile isDig, fracS (r1.dropWhile isDig), 0, base + spanN isDig r1 + fracN (r1.dropWhile isDig)⟩

def scanS (l : List UInt8) (g : Bool) : Hd :=
  let b := spanN isBlank l
  let r := l.drop b
  let neg := atB r 0 == 45
  let r1 := r.drop (signN r g)
  if g && decide (0 < (wordS r1 neg).2) then ⟨(wordS r1 neg).1, false, [], [], 0, b + signN r g + (wordS r1 neg).2⟩
  else numberS r1 g neg (b + signN r g)

def trimL (l : List UInt8) : List UInt8 := Lib.trimLeftS l [48]
def trimR (l : List UInt8) : List UInt8 := Lib.trimRightS l [48]

/-- The number as 0.DIGITS times 10 to an exponent. -/
def numW (h : Hd) : List UInt8 := if (if trimL h.whole = [] then trimL (trimR h.frac) else trimR h.frac) = [] then trimR (trimL h.whole) else trimL h.whole
def numF (h : Hd) : List UInt8 := if trimL h.whole = [] then trimL (trimR h.frac) else trimR h.frac
def numE (h : Hd) : Int := (if trimL h.whole = [] then ((trimL (trimR h.frac)).length : Int) - (trimR h.frac).length else (trimL h.whole).length) + h.exp
def numD (h : Hd) : List UInt8 := numW h ++ numF h

def rankOf (c : UInt8) : Nat :=
  if c == 75 || c == 107 then 1 else if c == 77 then 2 else if c == 71 then 3 else if c == 84 then 4 else if c == 80 then 5 else if c == 69 then 6
  else if c == 90 then 7 else if c == 89 then 8 else if c == 82 then 9 else if c == 81 then 10 else 0
def sufS (h : Hd) (l : List UInt8) : Nat := if h.cls = 0 then 0 else rankOf (atB l h.size)

/-- What a text counts for. -/
structure Val where
  cls : Nat
  rank : Nat
  exp : Int
  whole : List UInt8
  frac : List UInt8
def Val.digits (v : Val) : List UInt8 := v.whole ++ v.frac

def valH (kind : Nat) (h : Hd) (l : List UInt8) : Val :=
  if h.cls = 1 then ⟨32, 0, 0, [], []⟩
  else if h.cls = 2 then ⟨48, 0, 0, [], []⟩
  else if h.cls = 4 then ⟨112, 0, 0, [], []⟩
  else if h.cls = 0 ∧ kind = 32 then ⟨16, 0, 0, [], []⟩
  else if numD h = [] then ⟨80, 0, 0, [], []⟩
  else ⟨if h.neg then 64 else 96, if kind = 64 then sufS h l else 0, numE h, numW h, numF h⟩
def valS (kind : Nat) (l : List UInt8) : Val := valH kind (scanS l (kind == 32)) l

def digAt (l : List UInt8) (i : Nat) : Int := if i < l.length then ((l.getD i 0).toNat : Int) + 1 else 0
/-- Bytes compared as digits behind a point are. -/
def cmpL (a b : List UInt8) : Int := firstN (max a.length b.length) (fun i => cmpI (digAt a i) (digAt b i))

def cmpSize (v w : Val) : Int := thenC (cmpI v.rank w.rank) (thenC (cmpI v.exp w.exp) (cmpL v.digits w.digits))
def cmpVal (v w : Val) : Int := thenC (cmpI v.cls w.cls) (if v.cls = 64 then cmpSize w v else cmpSize v w)

/-- Months. -/
def mNames : List (List UInt8) := [[106, 97, 110], [102, 101, 98], [109, 97, 114], [97, 112, 114], [109, 97, 121], [106, 117, 110], [106, 117, 108], [97, 117, 103], [115, 101, 112], [111, 99, 116], [110, 111, 118], [100, 101, 99]]
def monthIn (l : List UInt8) : Nat → List (List UInt8) → Nat
  | _, [] => 0
  | n, w :: r => if begB l w then n + 1 else monthIn l (n + 1) r
def monthS (l : List UInt8) : Nat := monthIn (l.dropWhile isBlank) 0 mNames

/-- Versions. -/
def notDig (c : UInt8) : Bool := !isDig c
def plainOf (l : List UInt8) : List UInt8 := l.takeWhile notDig
def digsOf (l : List UInt8) : List UInt8 := (l.dropWhile notDig).takeWhile isDig
def restOf (l : List UInt8) : List UInt8 := (l.dropWhile notDig).dropWhile isDig

def rankB (c : UInt8) : Nat :=
  let n := c.toNat
  if n ≤ 47 then 55 + n else if n ≤ 64 then (103 + n - 58) % 256 else if n ≤ 90 then 3 + (n - 65) else if n ≤ 96 then 110 + (n - 91) else if n ≤ 122 then 29 + (n - 97)
  else if n ≤ 125 then 116 + (n - 123) else if n ≤ 126 then 1 else 119 + (n - 127)
def rankAtS (l : List UInt8) (i : Nat) : Int := if i < l.length then (rankB (l.getD i 0) : Int) else 2
def cmpPlain (a b : List UInt8) : Int := firstN (max a.length b.length) (fun i => cmpI (rankAtS a i) (rankAtS b i))
def cmpNums (a b : List UInt8) : Int :=
  if a = [] ∨ b = [] then cmpI a.length b.length
  else thenC (cmpI (trimL a).length (trimL b).length) (cmpL (trimL a) (trimL b))
def cmpPair (a b : List UInt8) : Int := thenC (cmpPlain (plainOf a) (plainOf b)) (cmpNums (digsOf a) (digsOf b))
/-- What is left behind i pairs. -/
def restN : Nat → List UInt8 → List UInt8
  | 0, l => l
  | n + 1, l => restN n (restOf l)
def cmpVer (a b : List UInt8) : Int := firstN (max a.length b.length) (fun i => cmpPair (restN i a) (restN i b))

/-- Compare. -/
def cmpS (kind : Nat) (a b : List UInt8) : Int :=
  if kind = 16 ∨ kind = 32 ∨ kind = 64 then cmpVal (valS kind a) (valS kind b)
  else if kind = 128 then cmpI (monthS a) (monthS b)
  else if kind = 256 then cmpVer a b
  else cmpL a b
end Go.Proofs.YtpbbgmfjdachnaaDoor
