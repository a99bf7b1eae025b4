/- Data by type: what they are, their bytes, and what is read of bytes. No text of the program is used here. -/
import Derived.Test.YtmlccnpondemiaaNp
import Derived.Test.YtmlccnpondemiaaFld
namespace Go.Proofs.Ytmlccnpondemiaa
open Go.ChangeShapes Go.WideShapes Go.ChangeAt Go.RowKit
set_option linter.unusedVariables false
set_option linter.unusedSimpArgs false








/-- Data: names, numbers, texts, bytes. -/
structure Dat where
  ns : List (List ByteArray)
  us : List Nat
  ts : List ByteArray
  raw : List Int
/-- What data of a type have: names, numbers, texts (-1: one or more), bytes (-1: any), a number's bytes. -/
structure Shp where
  nn : Nat
  nu : Nat
  nt : Int
  nr : Int
  wd : Nat
def shp (t : Nat) : Shp :=
  if t = 1 then ⟨0, 0, 0, 4, 0⟩ else if t = 28 then ⟨0, 0, 0, 16, 0⟩ else if t = 2 ∨ t = 5 ∨ t = 12 then ⟨1, 0, 0, 0, 0⟩ else if t = 6 then ⟨2, 5, 0, 0, 4⟩ else
  if t = 15 then ⟨1, 1, 0, 0, 2⟩ else if t = 33 then ⟨1, 3, 0, 0, 2⟩ else if t = 16 then ⟨0, 0, -1, 0, 0⟩ else if t = 257 then ⟨0, 1, 2, 0, 1⟩ else ⟨0, 0, 0, -1, 0⟩
def mayT (t : Nat) : Bool := decide (t ≠ 0) && (decide (t < 128) || decide (255 < t))
def most (wd : Nat) : Nat := if wd = 1 then 255 else if wd = 2 then 65535 else 4294967295
def alnum (z : Int) : Bool := (decide (97 ≤ z) && decide (z ≤ 122)) || (decide (65 ≤ z) && decide (z ≤ 90)) || (decide (48 ≤ z) && decide (z ≤ 57))
def tagB (s : ByteArray) : Bool := decide (1 ≤ s.size) && decide (s.size ≤ 15) && (nums s).all alnum
def fitsB (t : Nat) (d : Dat) : Bool :=
  decide (d.ns.length = (shp t).nn) && decide (d.us.length = (shp t).nu) && (decide ((shp t).nt < 0) || decide ((d.ts.length : Int) = (shp t).nt)) && (decide (0 ≤ (shp t).nt) || decide (d.ts.length ≠ 0)) &&
  (decide ((shp t).nr < 0) || decide ((d.raw.length : Int) = (shp t).nr)) && d.us.all (fun n => decide (n ≤ most (shp t).wd)) && (decide (t ≠ 16) || d.ts.all (fun s => decide (s.size ≤ 255))) && (decide (t ≠ 257) || tagB (d.ts.getD 0 ⟨#[]⟩))
/-- How many bytes texts have, with their lengths. -/
def tsz (t : Nat) (l : List ByteArray) : Nat := if t = 16 then (nby l).length else (match l with | [] => 0 | s :: r => s.size + 1 + (r.flatMap nums).length)
def sizesF (t : Nat) (d : Dat) : Nat := d.raw.length + d.us.length * (shp t).wd + (d.ns.map nsz).sum + tsz t d.ts
/-- The first error of names. -/
def nsErr : List (List ByteArray) → Int
  | [] => 0
  | n :: r => if nck n = 0 then nsErr r else nck n
def checkF (t : Nat) (d : Dat) : Int := if mayT t then (if fitsB t d then (if nsErr d.ns = 0 then (if 65535 < sizesF t d then 3 else 0) else nsErr d.ns) else 7) else 6
/-- A number in so many bytes. -/
def numB (n wd : Nat) : List Int := if wd = 1 then [(n : Int)] else if wd = 2 then [((n / 256 : Nat) : Int), ((n % 256 : Nat) : Int)] else [((n / 16777216 : Nat) : Int), ((n / 65536 % 256 : Nat) : Int), ((n / 256 % 256 : Nat) : Int), ((n % 256 : Nat) : Int)]
/-- A name's bytes. -/
def nmB (n : List ByteArray) : List Int := nby n ++ [0]
def tsB (t : Nat) (l : List ByteArray) : List Int := if t = 16 then nby l else (match l with | [] => [] | s :: r => ((s.size : Int) :: nums s) ++ r.flatMap nums)
def writeF (t : Nat) (d : Dat) : List Int := if t = 6 then d.ns.flatMap nmB ++ d.us.flatMap (fun n => numB n 4) else d.us.flatMap (fun n => numB n (shp t).wd) ++ d.ns.flatMap nmB ++ tsB t d.ts ++ d.raw
/-- The name at a place of bytes. -/
def gName (b : List Int) (p : Nat) : Option (List ByteArray × Nat) := if p < b.length then (match rgo b p [] with | some (o, q) => if nck o = 0 then some (o, q) else none | none => none) else none
def gNum (b : List Int) (p wd : Nat) : Nat := (val ((b.drop p).take wd)).toNat
def gTexts (b : List Int) (p : Nat) : Option (List ByteArray) :=
  if h : p < b.length then (if p + 1 + (b.getD p 0).toNat ≤ b.length then (gTexts b (p + 1 + (b.getD p 0).toNat)).map (lb ((b.drop (p + 1)).take (b.getD p 0).toNat) :: ·) else none) else some []
termination_by b.length - p
decreasing_by omega
def guessF (t : Nat) (b : List Int) : Option Dat :=
  if t = 6 then (gName b 0).bind fun x => (gName b x.2).bind fun y => if y.2 + 20 ≤ b.length then some ⟨[x.1, y.1], [gNum b y.2 4, gNum b (y.2 + 4) 4, gNum b (y.2 + 8) 4, gNum b (y.2 + 12) 4, gNum b (y.2 + 16) 4], [], []⟩ else none
  else if (shp t).nn = 1 then (if (shp t).nu * (shp t).wd ≤ b.length then (gName b ((shp t).nu * (shp t).wd)).map fun x => ⟨[x.1], (List.range (shp t).nu).map (fun i => gNum b (i * (shp t).wd) (shp t).wd), [], []⟩ else none)
  else if t = 16 then (gTexts b 0).map fun l => ⟨[], [], l, []⟩
  else if t = 257 then (if 2 ≤ b.length ∧ 2 + (b.getD 1 0).toNat ≤ b.length then some ⟨[], [gNum b 0 1], [lb ((b.drop 2).take (b.getD 1 0).toNat), lb (b.drop (2 + (b.getD 1 0).toNat))], []⟩ else none)
  else some ⟨[], [], [], b⟩
/-- What the document reads of bytes. -/
def dreadF (t : Nat) (b : List Int) : Option Dat := (guessF t b).bind fun d => if checkF t d = 0 ∧ writeF t d = b then some d else none
theorem nmB_len (n : List ByteArray) : (nmB n).length = nsz n := by
  have := nby_len n
  simp [nmB]; omega
theorem gName_at (P R : List Int) (n : List ByteArray) (h : nck n = 0) : gName (P ++ (nmB n ++ R)) P.length = some (n, P.length + nsz n) := by
  unfold gName
  have hl := nmB_len n
  have hz : 1 ≤ nsz n := by have := nsz_len n; omega
  have e : P ++ (nmB n ++ R) = P ++ (nby n ++ (0 :: R)) := by simp [nmB]
  rw [if_pos (by simp [hl]; omega), e, rgo_nby n P R [] (nck_small h).2]
  have := nby_len n
  simp [h]
  omega
theorem numB_len (n wd : Nat) (h : wd = 1 ∨ wd = 2 ∨ wd = 4) : (numB n wd).length = wd := by
  rcases h with rfl | rfl | rfl <;> simp [numB]
theorem val_numB (n wd : Nat) (h : (wd = 1 ∧ n ≤ 255) ∨ (wd = 2 ∧ n ≤ 65535) ∨ (wd = 4 ∧ n ≤ 4294967295)) : (val (numB n wd)).toNat = n := by
  rcases h with ⟨rfl, h⟩ | ⟨rfl, h⟩ | ⟨rfl, h⟩
  · simp [numB, val]
  · simp only [numB, val]
    simp
    omega
  · simp only [numB, val]
    simp
    omega
theorem gNum_at (P R : List Int) (n wd p : Nat) (h : (wd = 1 ∧ n ≤ 255) ∨ (wd = 2 ∧ n ≤ 65535) ∨ (wd = 4 ∧ n ≤ 4294967295)) (hp : p = P.length) : gNum (P ++ (numB n wd ++ R)) p wd = n := by
  subst hp
  unfold gNum
  have hl := numB_len n wd (by omega)
  rw [List.drop_left, List.take_append_of_le_length (by omega), List.take_of_length_le (by omega)]
  exact val_numB n wd h
theorem gTexts_at : ∀ (l : List ByteArray) (P : List Int), gTexts (P ++ nby l) P.length = some l
  | [], P => by
    rw [gTexts, dif_neg (by simp [nby])]
  | s :: r, P => by
    have hf : nby (s :: r) = (s.size : Int) :: (nums s ++ nby r) := by simp [nby]
    have hg : (P ++ nby (s :: r)).getD P.length 0 = (s.size : Int) := by rw [hf]; simp [List.getD_eq_getElem?_getD]
    have hl : (P ++ nby (s :: r)).length = P.length + (1 + (s.size + (nby r).length)) := by rw [hf]; simp [nums_len]; omega
    rw [gTexts, dif_pos (by rw [hl]; omega), hg, Int.toNat_natCast, if_pos (by rw [hl]; omega)]
    have ih := gTexts_at r (P ++ ((s.size : Int) :: nums s))
    have e1 : P ++ nby (s :: r) = P ++ ((s.size : Int) :: nums s) ++ nby r := by rw [hf]; simp
    have e2 : (P ++ ((s.size : Int) :: nums s)).length = P.length + 1 + s.size := by simp [nums_len]; omega
    have hd : ((P ++ nby (s :: r)).drop (P.length + 1)).take s.size = nums s := by
      rw [hf, List.drop_append, List.drop_eq_nil_of_le (by omega), Nat.add_sub_cancel_left, List.nil_append]
      show (nums s ++ _).take s.size = nums s
      rw [List.take_append_of_le_length (by rw [nums_len]; exact Nat.le_refl _), List.take_of_length_le (by rw [nums_len]; exact Nat.le_refl _)]
    have hlb : lb (nums s) = s := txt_back s
    rw [e2] at ih
    rw [hd, hlb]
    conv => lhs; arg 2; rw [e1]
    rw [ih]
    rfl
end Go.Proofs.Ytmlccnpondemiaa
