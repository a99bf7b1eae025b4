/- Folded data and the order of data. No text of the program is used here. -/
import Derived.Test.YtmlccnpondemiaaDbk
import Derived.Test.YtmlccnpondemiaaOrd
namespace Go.Proofs.Ytmlccnpondemiaa
open Go.ChangeShapes Go.WideShapes Go.ChangeAt Go.RowKit
set_option linter.unusedVariables false
set_option linter.unusedSimpArgs false








/-- A label folded, a name folded, data folded. -/
def foldL (s : ByteArray) : ByteArray := ⟨(txt ((nums s).map fz)).toArray⟩
def foldN (n : List ByteArray) : List ByteArray := n.map foldL
def foldD (t : Nat) (d : Dat) : Dat := if mayT t = true ∧ (shp t).nn ≠ 0 then ⟨d.ns.map foldN, d.us, d.ts, d.raw⟩ else d
theorem foldL_size (s : ByteArray) : (foldL s).size = s.size := by
  show (txt ((nums s).map fz)).toArray.size = s.size
  rw [List.size_toArray, txt_len, List.length_map, nums_len]
theorem nums_foldL (s : ByteArray) : nums (foldL s) = (nums s).map fz := by
  unfold foldL
  refine nums_txt _ fun z hz => ?_
  obtain ⟨y, hy, rfl⟩ := List.mem_map.1 hz
  exact fz_bd y (nums_bds s y hy)
theorem foldL_fold (s : ByteArray) : foldL (foldL s) = foldL s := by
  have h := nums_foldL s
  unfold foldL at h ⊢
  rw [h, List.map_map]
  congr 3
  exact List.map_congr_left fun z _ => fz_fz z
theorem foldN_fold (n : List ByteArray) : foldN (foldN n) = foldN n := by
  unfold foldN
  rw [List.map_map]
  exact List.map_congr_left fun s _ => foldL_fold s
theorem foldN_nsz : ∀ n : List ByteArray, nsz (foldN n) = nsz n
  | [] => rfl
  | s :: r => by
    have := foldN_nsz r
    simp only [foldN, List.map_cons, nsz, foldL_size] at this ⊢
    omega
theorem foldN_nck (n : List ByteArray) : nck (foldN n) = nck n := by
  have h : labsOk (foldN n) ↔ labsOk n := by
    unfold labsOk foldN
    simp only [List.mem_map, forall_exists_index, and_imp, forall_apply_eq_imp_iff₂, foldL_size]
  unfold nck
  rw [foldN_nsz]
  by_cases hl : labsOk n
  · rw [if_pos hl, if_pos (h.2 hl)]
  · rw [if_neg hl, if_neg (fun x => hl (h.1 x))]
theorem nsErr_fold : ∀ l : List (List ByteArray), nsErr (l.map foldN) = nsErr l
  | [] => rfl
  | n :: r => by
    simp only [List.map_cons, nsErr, foldN_nck, nsErr_fold r]
theorem foldD_check (t : Nat) (d : Dat) : checkF t (foldD t d) = checkF t d := by
  unfold foldD
  split
  · have h1 : fitsB t ⟨d.ns.map foldN, d.us, d.ts, d.raw⟩ = fitsB t d := by simp [fitsB]
    have h2 : sizesF t ⟨d.ns.map foldN, d.us, d.ts, d.raw⟩ = sizesF t d := by
      unfold sizesF
      simp only [List.map_map]
      congr 3
      exact List.map_congr_left fun n _ => foldN_nsz n
    unfold checkF
    rw [h1, h2]
    simp only [nsErr_fold]
  · rfl
theorem foldD_fold (t : Nat) (d : Dat) : foldD t (foldD t d) = foldD t d := by
  unfold foldD
  by_cases h : mayT t = true ∧ (shp t).nn ≠ 0
  · simp only [if_pos h, List.map_map]
    congr 1
    exact List.map_congr_left fun n _ => foldN_fold n
  · simp only [if_neg h]
/-- How two stand to one another. -/
def cmpL (x y : List Int) : Int := Lib.compareBytes (txt x) (txt y)
def compareF (t : Nat) (a b : Dat) : Int := if checkF t a = 0 ∧ checkF t b = 0 then cmpL (writeF t (foldD t a)) (writeF t (foldD t b)) else 0
def sameF (t : Nat) (a b : Dat) : Bool := decide (checkF t a = 0) && decide (checkF t b = 0) && decide (compareF t a b = 0)
theorem compareF_range (t : Nat) (a b : Dat) : compareF t a b = -1 ∨ compareF t a b = 0 ∨ compareF t a b = 1 := by
  unfold compareF
  split
  · exact cb_range _ _
  · exact .inr (.inl rfl)
theorem compareF_neg (t : Nat) (a b : Dat) : compareF t b a = - compareF t a b := by
  unfold compareF
  by_cases h : checkF t a = 0 ∧ checkF t b = 0
  · rw [if_pos h, if_pos ⟨h.2, h.1⟩]; exact cb_neg _ _
  · rw [if_neg h, if_neg (fun x => h ⟨x.2, x.1⟩)]; rfl
theorem compareF_trans {t : Nat} {a b c : Dat} (ha : checkF t a = 0) (hb : checkF t b = 0) (hc : checkF t c = 0) (h1 : compareF t a b ≤ 0) (h2 : compareF t b c ≤ 0) : compareF t a c ≤ 0 := by
  unfold compareF at *
  rw [if_pos ⟨ha, hb⟩] at h1
  rw [if_pos ⟨hb, hc⟩] at h2
  rw [if_pos ⟨ha, hc⟩]
  exact cb_trans _ _ _ h1 h2
theorem compareF_strict {t : Nat} {a b c : Dat} (ha : checkF t a = 0) (hb : checkF t b = 0) (hc : checkF t c = 0) (h1 : compareF t a b < 0) (h2 : compareF t b c ≤ 0) : compareF t a c < 0 := by
  by_cases h : compareF t a c < 0
  · exact h
  · have h3 : compareF t c a ≤ 0 := by rw [compareF_neg]; omega
    have h4 := compareF_trans hb hc ha h2 h3
    rw [compareF_neg] at h4
    omega
theorem same_fold {t : Nat} {a : Dat} (ha : checkF t a = 0) : sameF t a (foldD t a) = true := by
  have h := foldD_check t a
  unfold sameF compareF
  rw [h, ha, foldD_fold]
  have : cmpL (writeF t (foldD t a)) (writeF t (foldD t a)) = 0 := cb_refl _
  simp [this]
end Go.Proofs.Ytmlccnpondemiaa
