/- Texts laid together, in parts: Hp Hn Hq Ia Tk Hw Iw Rk Vr Mpa Sqd Sqj Mba Ak Bwl Mpb Va Vp Vb Vc Vd Vf. -/
import Derived.Test.YtkjnbgekaifdfaaGreatWgb
import Derived.Deep.CutBlock
import Derived.Deep.QuietTactic
import Derived.BigQuiet
import Derived.WalkSpells
import Derived.Lib.Hide
import Derived.WalkSmall
import Derived.WalkMore
import Derived.Maps.OwnSet
import Derived.LaidEqlPtr
import Derived.BigRegion
import Derived.Deep.RegionHeld3
import Derived.Laws.BitsAllLaws
import Derived.WalkKit
namespace Go.Proofs.YtkjnbgekaifdfaaGreat
open Go.ChangeShapes Go.WideShapes Go.ChangeAt Go.RowKit
set_option linter.unusedVariables false
set_option linter.unusedSimpArgs false
/-- What was read, by fields: data, and where the reader is then. -/
def pread (f : Fs) (zs : List Int) (len : Nat) : Dat × Option Nat :=
  let r1 := pnms zs len (some 0) f.nf
  let r2 := pnus zs len r1.2 f.wd f.nu
  let r3 := pnms zs len r2.2 (f.nn - f.nf)
  let r4 := ptxs f zs len r3.2
  let r5 : List Int × Option Nat := if f.nr = 0 then ([], r4.2) else (tk zs r4.2 (lft len r4.2), mv len r4.2 (lft len r4.2))
  (⟨r1.1 ++ r3.1, r2.1, r4.1, r5.1⟩, r5.2)
theorem dropd {zs : List Int} {p : Nat} {b R : List Int} (h : zs.drop p = b ++ R) (hp : p ≤ zs.length) : zs = zs.take p ++ (b ++ R) ∧ (zs.take p).length = p ∧ zs.drop (p + b.length) = R ∧ p + b.length ≤ zs.length := by
  refine ⟨by rw [← h, List.take_append_drop], by simp; omega, ?_, ?_⟩
  · rw [← List.drop_drop, h]; simp
  · have := congrArg List.length h
    simp at this; omega
theorem nby_cons (s : ByteArray) (r : List ByteArray) : nby (s :: r) = ((s.size : Int) :: nums s) ++ nby r := by simp [nby]
theorem ptx2_len (zs : List Int) (len : Nat) (st : Option Nat) : (ptx2 zs len st).1.length = 2 := rfl
theorem fs_w (t : Nat) : (fs t).nu = 0 ∨ (fs t).wd = 1 ∨ (fs t).wd = 2 ∨ (fs t).wd = 4 := by
  rcases fs_cases t with ⟨_, e⟩ | ⟨_, e⟩ | ⟨_, e⟩ | ⟨_, e⟩ | ⟨_, e⟩ | ⟨_, e⟩ | ⟨_, e⟩ | ⟨_, e⟩ | ⟨_, e⟩ <;> rw [e] <;> simp
theorem pnm1_at {zs : List Int} {p : Nat} {n : List ByteArray} {R : List Int} (h : zs.drop p = nmB n ++ R) (hp : p ≤ zs.length) (hk : nck n = 0) : pnm1 zs zs.length (some p) = (n, some (p + nsz n)) := by
  obtain ⟨e1, e2, _, e4⟩ := dropd h hp
  have hg := gName_at (zs.take p) R n hk
  rw [← e1, e2] at hg
  obtain ⟨g1, _, _, g4⟩ := gName_le hg
  simp only [pnm1, pos, g4, jm, if_true]
  rw [if_pos ⟨by omega, by omega⟩]
  simp
  omega
theorem pnms_at {zs : List Int} {p : Nat} {ns : List (List ByteArray)} {R : List Int} (h : zs.drop p = ns.flatMap nmB ++ R) (hp : p ≤ zs.length) (hk : ∀ n ∈ ns, nck n = 0) : ∀ k, k ≤ ns.length → pnms zs zs.length (some p) k = (ns.take k, some (p + ((ns.take k).flatMap nmB).length))
  | 0, _ => by simp [pnms]
  | k + 1, hk1 => by
    have ih := pnms_at h hp hk k (by omega)
    have hd : zs.drop p = (ns.take k).flatMap nmB ++ ((ns.drop k).flatMap nmB ++ R) := by
      rw [h, ← List.append_assoc, ← List.flatMap_append, List.take_append_drop]
    obtain ⟨_, _, e3, e4⟩ := dropd hd hp
    have hdk : ns.drop k = ns[k] :: ns.drop (k + 1) := List.drop_eq_getElem_cons (by omega)
    rw [hdk, List.flatMap_cons, List.append_assoc] at e3
    have h1 := pnm1_at e3 e4 (hk _ (List.getElem_mem _))
    simp only [pnms, ih, h1]
    rw [List.take_succ_eq_append_getElem (by omega), List.flatMap_append]
    simp [nmB_len]; omega
theorem pnus_at {zs : List Int} {p wd : Nat} {us : List Nat} {R : List Int} (h : zs.drop p = us.flatMap (fun n => numB n wd) ++ R) (hp : p ≤ zs.length) (hw : us = [] ∨ wd = 1 ∨ wd = 2 ∨ wd = 4) (hu : ∀ u ∈ us, u ≤ most wd) : ∀ k, k ≤ us.length → pnus zs zs.length (some p) wd k = (us.take k, some (p + ((us.take k).flatMap (fun n => numB n wd)).length))
  | 0, _ => by simp [pnus]
  | k + 1, hk1 => by
    have ih := pnus_at h hp hw hu k (by omega)
    have hw' : wd = 1 ∨ wd = 2 ∨ wd = 4 := hw.resolve_left (fun e => by rw [e] at hk1; simp at hk1)
    have hd : zs.drop p = (us.take k).flatMap (fun n => numB n wd) ++ ((us.drop k).flatMap (fun n => numB n wd) ++ R) := by
      rw [h, ← List.append_assoc, ← List.flatMap_append, List.take_append_drop]
    obtain ⟨_, _, e3, e4⟩ := dropd hd hp
    have hdk : us.drop k = us[k] :: us.drop (k + 1) := List.drop_eq_getElem_cons (by omega)
    rw [hdk, List.flatMap_cons, List.append_assoc] at e3
    have hl := numB_len us[k] wd hw'
    obtain ⟨_, _, e5, e6⟩ := dropd e3 e4
    have hm := hu us[k] (List.getElem_mem _)
    have htk : tk zs (some (p + ((us.take k).flatMap (fun n => numB n wd)).length)) (wd : Int) = numB us[k] wd := by
      simp only [tk]
      rw [if_pos ⟨by omega, by omega⟩, e3, Int.toNat_natCast, List.take_append_of_le_length (by omega), List.take_of_length_le (by omega)]
    have h1 : pnu zs (some (p + ((us.take k).flatMap (fun n => numB n wd)).length)) wd = us[k] := by
      unfold pnu
      rw [htk]
      refine val_numB _ _ ?_
      rcases hw' with rfl | rfl | rfl
      · exact .inl ⟨rfl, by simpa [most] using hm⟩
      · exact .inr (.inl ⟨rfl, by simpa [most] using hm⟩)
      · exact .inr (.inr ⟨rfl, by simpa [most] using hm⟩)
    have h2 : mv zs.length (some (p + ((us.take k).flatMap (fun n => numB n wd)).length)) (wd : Int) = some (p + ((us.take k).flatMap (fun n => numB n wd)).length + wd) := by
      simp only [mv]
      rw [if_pos ⟨by omega, by omega⟩]
      simp
    simp only [pnus, ih, h1, h2]
    rw [List.take_succ_eq_append_getElem (by omega), List.flatMap_append]
    simp [hl]; omega
theorem text_at {zs : List Int} {p : Nat} {s : ByteArray} {R : List Int} (h : zs.drop p = ((s.size : Int) :: nums s) ++ R) (hp : p ≤ zs.length) : val (tk zs (some p) 1) = (s.size : Int) ∧ mv zs.length (some p) 1 = some (p + 1) ∧ tk zs (some (p + 1)) (s.size : Int) = nums s ∧ mv zs.length (some (p + 1)) (s.size : Int) = some (p + 1 + s.size) ∧ zs.drop (p + 1 + s.size) = R ∧ p + 1 + s.size ≤ zs.length := by
  obtain ⟨_, _, e3, e4⟩ := dropd h hp
  have hn := nums_len s
  simp only [List.length_cons] at e3 e4
  have e1 : zs.drop (p + 1) = nums s ++ R := by rw [← List.drop_drop, h]; rfl
  refine ⟨?_, ?_, ?_, ?_, ?_, by omega⟩
  · simp only [tk]
    rw [if_pos ⟨by omega, by omega⟩, h]
    simp [val]
  · simp only [mv]
    rw [if_pos ⟨by omega, by omega⟩]
    simp
  · simp only [tk]
    rw [if_pos ⟨by omega, by omega⟩, e1, Int.toNat_natCast, List.take_append_of_le_length (by omega), List.take_of_length_le (by omega)]
  · simp only [mv]
    rw [if_pos ⟨by omega, by omega⟩]
    simp
  · rw [← e3]; congr 1; omega
theorem ptxF_at {zs : List Int} : ∀ (l : List ByteArray) (p k : Nat), zs.drop p = nby l → p ≤ zs.length → l.length < k → ptxF zs zs.length k (some p) = (l, some zs.length)
  | [], p, k, h, hp, hk => by
    have : zs.length - p = 0 := by have := congrArg List.length h; simpa [nby] using this
    rw [ptxF_end zs zs.length k (some p) (by simp [lft]; omega)]
    have : p = zs.length := by omega
    rw [this]
  | s :: r, p, 0, h, hp, hk => by simp at hk
  | s :: r, p, k + 1, h, hp, hk => by
    rw [nby_cons] at h
    obtain ⟨e1, e2, e3, e4, e5, e6⟩ := text_at h hp
    have ih := ptxF_at r (p + 1 + s.size) k e5 e6 (by simp at hk; omega)
    unfold ptxF
    rw [if_pos (by simp [lft]; omega), e1, e2, e4, e3, ih]
    have : lb (nums s) = s := txt_back s
    rw [this]
theorem rest_at {zs : List Int} {P : Nat} {X : List Int} (hP : zs.drop P = X) (hPl : P ≤ zs.length) : tk zs (some P) (lft zs.length (some P)) = X ∧ mv zs.length (some P) (lft zs.length (some P)) = some zs.length := by
  have hlP := congrArg List.length hP
  rw [List.length_drop] at hlP
  have hf : lft zs.length (some P) = (zs.length : Int) - (P : Int) := rfl
  rw [hf]
  constructor
  · simp only [tk]
    rw [if_pos ⟨by omega, by omega⟩, hP, List.take_of_length_le (by omega)]
  · simp only [mv]
    rw [if_pos ⟨by omega, by omega⟩]
    congr 1; omega
theorem ptx2_at {zs : List Int} {p : Nat} {s r : ByteArray} (h : zs.drop p = ((s.size : Int) :: nums s) ++ nums r) (hp : p ≤ zs.length) : ptx2 zs zs.length (some p) = ([s, r], some zs.length) := by
  obtain ⟨e1, e2, e3, e4, e5, e6⟩ := text_at h hp
  obtain ⟨h1, h2⟩ := rest_at e5 e6
  have hs : lb (nums s) = s := txt_back s
  have hr : lb (nums r) = r := txt_back r
  unfold ptx2
  simp only [e1, e2, e3, e4, h1, h2, hs, hr]
theorem nby_le (l : List ByteArray) : l.length ≤ (nby l).length := by
  have := nby_len l
  have := nsz_len l
  omega
theorem ptB_two (a b : ByteArray) : ptB 1 [a, b] = ((a.size : Int) :: nums a) ++ nums b := by simp [ptB, nby]
/-- Data's bytes are read as the data. -/
theorem pread_at (t : Nat) (d : Dat) (zs : List Int) (hck : checkF t d = 0) (hw : writeF t d = zs) : pread (fs t) zs zs.length = (d, some zs.length) := by
  obtain ⟨hm, hfit, hns, hsz⟩ := check_parts hck
  obtain ⟨_, w1, w2, w3, w4, w5⟩ := wr_eq t d hfit
  rw [hw] at w5
  have hfe := fit_eq t d
  rw [hfit] at hfe
  simp only [Bool.and_eq_true] at hfe
  have hcnt := hfe.1
  unfold cntB at hcnt
  simp only [Bool.and_eq_true] at hcnt
  obtain ⟨⟨⟨c1, c2⟩, c3⟩, c4⟩ := hcnt
  rw [fitB_ge _ _ (by omega)] at c1 c2
  have c1' : d.ns.length = (fs t).nn := by have := of_decide_eq_true c1; omega
  have c2' : d.us.length = (fs t).nu := by have := of_decide_eq_true c2; omega
  have hun := ((fit_iff t d).1 hfit).un
  rw [← w3] at hun
  have hww : d.us = [] ∨ (fs t).wd = 1 ∨ (fs t).wd = 2 ∨ (fs t).wd = 4 := by
    rcases fs_w t with h | h
    · exact .inl (len0 (by omega))
    · exact .inr h
  have z1 : zs.drop 0 = (d.ns.take (fs t).nf).flatMap nmB ++ (d.us.flatMap (fun n => numB n (fs t).wd) ++ ((d.ns.drop (fs t).nf).flatMap nmB ++ (ptB (d.ts.length - (fs t).tl) d.ts ++ d.raw))) := by
    rw [List.drop_zero, ← w5]; simp
  have q1 := pnms_at z1 (Nat.zero_le _) (fun n hn => hns n (List.mem_of_mem_take hn)) (fs t).nf (by simp; omega)
  rw [List.take_take, Nat.min_self] at q1
  obtain ⟨_, _, z2, l2⟩ := dropd z1 (Nat.zero_le _)
  have q2 := pnus_at z2 l2 hww hun (fs t).nu (by omega)
  have ht1 : d.us.take (fs t).nu = d.us := List.take_of_length_le (by omega)
  rw [ht1] at q2
  obtain ⟨_, _, z3, l3⟩ := dropd z2 l2
  have q3 := pnms_at z3 l3 (fun n hn => hns n (List.mem_of_mem_drop hn)) ((fs t).nn - (fs t).nf) (by simp; omega)
  have ht2 : (d.ns.drop (fs t).nf).take ((fs t).nn - (fs t).nf) = d.ns.drop (fs t).nf := List.take_of_length_le (by simp; omega)
  rw [ht2] at q3
  obtain ⟨_, _, z4, l4⟩ := dropd z3 l3
  have q4 : ptxs (fs t) zs zs.length (some (0 + ((d.ns.take (fs t).nf).flatMap nmB).length + (d.us.flatMap (fun n => numB n (fs t).wd)).length + ((d.ns.drop (fs t).nf).flatMap nmB).length)) = (d.ts, some (0 + ((d.ns.take (fs t).nf).flatMap nmB).length + (d.us.flatMap (fun n => numB n (fs t).wd)).length + ((d.ns.drop (fs t).nf).flatMap nmB).length + (ptB (d.ts.length - (fs t).tl) d.ts).length)) ∧ ((fs t).nr = 0 → d.raw = []) := by
    clear q1 q2 q3 z1 z2 z3 l2 l3
    generalize 0 + ((d.ns.take (fs t).nf).flatMap nmB).length + (d.us.flatMap (fun n => numB n (fs t).wd)).length + ((d.ns.drop (fs t).nf).flatMap nmB).length = p at *
    have hlz : (zs.drop p).length = zs.length - p := by simp
    rcases fs_cases t with ⟨ht, e⟩ | ⟨ht, e⟩ | ⟨ht, e⟩ | ⟨ht, e⟩ | ⟨ht, e⟩ | ⟨ht, e⟩ | ⟨ht, e⟩ | ⟨ht, e⟩ | ⟨ht, e⟩
    all_goals rw [e] at c3 c4 z4 ⊢
    all_goals simp only at z4 c3 c4 ⊢
    case inr.inr.inr.inr.inr.inr.inl =>
      have hraw : d.raw = [] := nil_of (by rw [fitB_ge _ _ (by omega)] at c4; simpa using c4)
      rw [hraw, ptB_all, List.append_nil] at z4
      have := nby_le d.ts
      refine ⟨?_, fun _ => hraw⟩
      unfold ptxs
      rw [if_pos rfl, ptxF_at d.ts p _ z4 l4 (by rw [z4] at hlz; omega), ptB_all]
      rw [z4] at hlz
      congr 2; omega
    case inr.inr.inr.inr.inr.inr.inr.inl =>
      have hraw : d.raw = [] := nil_of (by rw [fitB_ge _ _ (by omega)] at c4; simpa using c4)
      have h2 : d.ts.length = 2 := by rw [fitB_ge _ _ (by omega)] at c3; simp at c3; omega
      obtain ⟨a, b, hab⟩ := len2 h2
      refine ⟨?_, fun _ => hraw⟩
      rw [hab, hraw, List.append_nil] at z4
      have z5 : zs.drop p = ptB 1 [a, b] := z4
      rw [ptB_two] at z5
      unfold ptxs
      rw [if_neg (by decide), if_pos rfl, ptx2_at z5 l4, hab]
      rw [z4] at hlz
      congr 2; omega
    all_goals
      have hts : d.ts = [] := nil_of (by rw [fitB_ge _ _ (by omega)] at c3; simpa using c3)
      refine ⟨?_, ?_⟩
      · rw [hts]; unfold ptxs; simp [ptB, nby]
      · first
          | (intro h; exact absurd h (by decide))
          | (intro _; exact nil_of (by rw [fitB_ge _ _ (by omega)] at c4; simpa using c4))
  obtain ⟨q4, hraw⟩ := q4
  obtain ⟨_, _, z5, l5⟩ := dropd z4 l4
  unfold pread
  simp only [q1, q2, q3, q4]
  have hlz := congrArg List.length z5
  rw [List.length_drop] at hlz
  have hnn : d.ns.take (fs t).nf ++ d.ns.drop (fs t).nf = d.ns := List.take_append_drop _ _
  rw [hnn]
  split
  · rename_i h
    have hr := hraw h
    rw [hr] at hlz
    have hP := Nat.le_antisymm l5 (Nat.le_of_sub_eq_zero hlz)
    rw [hP, ← hr]
  · obtain ⟨r1, r2⟩ := rest_at z5 l5
    rw [r1, r2]
end Go.Proofs.YtkjnbgekaifdfaaGreat
namespace Go.Proofs.YtkjnbgekaifdfaaGreat
open Go.ChangeShapes Go.WideShapes Go.ChangeAt Go.RowKit
set_option linter.unusedVariables false
set_option linter.unusedSimpArgs false
theorem UOwn.mono {B B' : Nat} {w : World} {s : Sl} {us : List Nat} (h : UOwn B w s us) (hB : B' ≤ B) : UOwn B' w s us := by
  obtain ⟨xs, h1, h2⟩ := h
  exact ⟨xs, h1.mono hB, h2⟩
theorem BOwn.mono {B B' : Nat} {w : World} {s : Sl} {zs : List Int} (h : BOwn B w s zs) (hB : B' ≤ B) : BOwn B' w s zs := by
  obtain ⟨xs, h1, h2⟩ := h
  exact ⟨xs, own_mono h1 hB, h2⟩
theorem UOwn.offTy {B : Nat} {w w' : World} {s : Sl} {us : List Nat} (h : UOwn B w s us) (hg : ∃ o, w.grownBy w' o ∧ ∀ j, o = some j → B ≤ j ∧ ∃ zs, BlkV w j 51 zs) : UOwn B w' s us := by
  obtain ⟨o, h1, h2⟩ := hg
  refine h.keepTy fun j _ hj ⟨zs, hz⟩ => h1.block j hj (fun e => ?_)
  obtain ⟨_, zs', hz'⟩ := h2 j e.symm
  exact absurd (blk_ty hz hz') (by decide)
theorem DBlk.offTy {W W' : World} {D B : Nat} {x : DA} (h : DBlk W D x) (hg : ∃ o, W.grownBy W' o ∧ ∀ j, o = some j → B ≤ j ∧ ∃ zs, BlkV W j 51 zs) : DBlk W' D x := by
  obtain ⟨o, h1, h2⟩ := hg
  refine h.same (h1.block D h.lt (fun e => ?_))
  obtain ⟨_, zs', hz'⟩ := h2 D e.symm
  have hh : W.heap[D]? = _ := h
  have hh' : W.heap[D]? = some (.cells zs'.toArray 51 (0, 0)) := hz'
  rw [hh] at hh'
  injection hh' with hh'
  injection hh' with _ hh'
  exact absurd hh' (by decide)
theorem dblk_new (W : World) : DBlk (W.alloc (.cells #[.slice none 0 0, .slice none 0 0, .slice none 0 0, .slice none 0 0] 60)) W.heap.size nilDA := heap_alloc_new _ _
theorem DBlk.ne {W : World} {D j : Nat} {x : DA} {t : TypeId} {zs : List Value} (h : DBlk W D x) (hz : BlkV W j t zs) (ht : t ≠ 60) : j ≠ D := by
  rintro rfl
  have hh : W.heap[j]? = _ := h
  have hh' : W.heap[j]? = some (.cells zs.toArray t (0, 0)) := hz
  rw [hh] at hh'
  injection hh' with hh'
  injection hh' with _ hh'
  exact ht hh'.symm
/-- Four cells of a box are written. -/
abbrev set4 (W : World) (D : Nat) (x : DA) : World := (((W.setCell ⟨D, 0, none⟩ (.slice x.p1.a x.p1.n x.p1.c)).setCell ⟨D, 1, none⟩ (.slice x.p2.a x.p2.n x.p2.c)).setCell ⟨D, 2, none⟩ (.slice x.p3.a x.p3.n x.p3.c)).setCell ⟨D, 3, none⟩ (.slice x.p4.a x.p4.n x.p4.c)
theorem set4_blk {W : World} {D : Nat} {y : DA} (h : DBlk W D y) (x : DA) : DBlk (set4 W D x) D x := (heap_set (heap_set (heap_set (heap_set h 0 _) 1 _) 2 _) 3 _).trans (by simp)
theorem set4_off (W : World) (D : Nat) (x : DA) (j : Nat) (hj : j ≠ D) : (set4 W D x).heap[j]? = W.heap[j]? :=
  (((Below.heap_setCell _ _ _ j hj).trans (Below.heap_setCell _ _ _ j hj)).trans (Below.heap_setCell _ _ _ j hj)).trans (Below.heap_setCell _ _ _ j hj)
theorem BOwn.keepD {B : Nat} {w w' : World} {s : Sl} {zs : List Int} {D : Nat} {x : DA} (h : BOwn B w s zs) (hD : DBlk w D x) (hb : ∀ j, j ≠ D → w'.heap[j]? = w.heap[j]?) : BOwn B w' s zs := by
  obtain ⟨ys, h1, h2⟩ := h
  refine ⟨ys, ?_, h2⟩
  rcases h1 with h1 | ⟨g, e1, e2, e3, e4⟩
  · exact .inl h1
  · refine .inr ⟨g, e1, e2, e3.same (hb g ?_), e4⟩
    rintro rfl
    have hh : w.heap[g]? = _ := hD
    have hh' := e3.1
    rw [hh] at hh'
    injection hh' with hh'
    injection hh' with _ hh'
    exact absurd hh' (by decide)
end Go.Proofs.YtkjnbgekaifdfaaGreat
namespace Go.Proofs.YtkjnbgekaifdfaaGreat
open Go.ChangeShapes Go.WideShapes Go.ChangeAt Go.RowKit
set_option linter.unusedVariables false
set_option linter.unusedSimpArgs false
theorem nread_small (zs : List Int) (p : Int) : (nread zs p).1.length ≤ 255 := by
  unfold nread
  split
  · simp
  · split
    · simp
    · split
      · rename_i h
        have h1 := (nck_small h).1
        have h2 := nsz_len ‹List ByteArray›
        simp only
        omega
      · simp
theorem pnms_small (zs : List Int) (len : Nat) (st : Option Nat) : ∀ k, ∀ n ∈ (pnms zs len st k).1, n.length ≤ 255
  | 0 => by simp [pnms]
  | k + 1 => by
    intro n hn
    simp only [pnms, List.mem_append, List.mem_singleton] at hn
    rcases hn with hn | hn
    · exact pnms_small zs len st k n hn
    · subst hn; exact nread_small _ _
theorem ptxF_small (zs : List Int) : ∀ (k : Nat) (st : Option Nat), (ptxF zs zs.length k st).1.length ≤ k ∧ ∀ s ∈ (ptxF zs zs.length k st).1, s.size ≤ zs.length
  | 0, st => by simp [ptxF]
  | k + 1, st => by
    by_cases h : 0 < lft zs.length st
    · have ih := ptxF_small zs k (mv zs.length (mv zs.length st 1) (val (tk zs st 1)))
      unfold ptxF
      rw [if_pos h]
      refine ⟨by simp; exact ih.1, ?_⟩
      intro s hs
      simp only [List.mem_cons] at hs
      rcases hs with rfl | hs
      · rw [lb_size]; exact tk_size zs zs.length rfl _ _
      · exact ih.2 s hs
    · rw [ptxF_end zs zs.length (k + 1) st h]; simp
theorem tsum_small (l : List ByteArray) (m : Nat) (h : ∀ s ∈ l, s.size ≤ m) : (l.map tz).sum ≤ l.length * (m + 1) := by
  have := sum_le (l.map tz) (m + 1) (by
    intro x hx
    obtain ⟨s, hs, rfl⟩ := List.mem_map.1 hx
    have := h s hs
    simp only [tz]; omega)
  simpa using this
theorem pread_bd (t : Nat) (zs : List Int) (hl : zs.length ≤ 65535) : Bd (pread (fs t) zs zs.length).1 := by
  have hfc : (fs t).nf ≤ (fs t).nn ∧ (fs t).nn ≤ 2 ∧ (fs t).nu ≤ 5 := by
    rcases fs_cases t with ⟨_, e⟩ | ⟨_, e⟩ | ⟨_, e⟩ | ⟨_, e⟩ | ⟨_, e⟩ | ⟨_, e⟩ | ⟨_, e⟩ | ⟨_, e⟩ | ⟨_, e⟩ <;> rw [e] <;> simp
  refine ⟨?_, ?_, ?_, ?_, ?_⟩
  · show (_ ++ _ : List (List ByteArray)).length ≤ 1000
    rw [List.length_append, pnms_len, pnms_len]; omega
  · intro x hx
    have hx' : x ∈ (_ ++ _ : List (List ByteArray)) := hx
    rcases List.mem_append.1 hx' with h | h
    · have := pnms_small _ _ _ _ x h; omega
    · have := pnms_small _ _ _ _ x h; omega
  · show (pnus _ _ _ _ _).1.length ≤ 1000
    rw [pnus_len]; omega
  · have h : ∀ st, ((ptxs (fs t) zs zs.length st).1.length ≤ 65537 ∧ ∀ s ∈ (ptxs (fs t) zs zs.length st).1, s.size ≤ 65535) := by
      intro st
      unfold ptxs
      split
      · have := ptxF_small zs (zs.length + 1) st
        exact ⟨by omega, fun s hs => by have := this.2 s hs; omega⟩
      · split
        · refine ⟨by rw [ptx2_len]; omega, ?_⟩
          intro s hs
          simp only [ptx2, List.mem_cons, List.not_mem_nil, or_false] at hs
          rcases hs with rfl | rfl
          · have := tk_size zs zs.length rfl (mv zs.length st 1) (val (tk zs st 1))
            rw [lb_size]; omega
          · have := tk_size zs zs.length rfl (mv zs.length (mv zs.length st 1) (val (tk zs st 1))) (lft zs.length (mv zs.length (mv zs.length st 1) (val (tk zs st 1))))
            rw [lb_size]; omega
        · simp
    have h2 := h (pnms zs zs.length (pnus zs zs.length (pnms zs zs.length (some 0) (fs t).nf).2 (fs t).wd (fs t).nu).2 ((fs t).nn - (fs t).nf)).2
    have h3 := tsum_small _ 65535 h2.2
    show ((ptxs (fs t) zs zs.length (pnms zs zs.length (pnus zs zs.length (pnms zs zs.length (some 0) (fs t).nf).2 (fs t).wd (fs t).nu).2 ((fs t).nn - (fs t).nf)).2).1.map tz).sum ≤ _
    have h4 := Nat.mul_le_mul_right (65535 + 1) h2.1
    omega
  · show (List.length (if (fs t).nr = 0 then (([] : List Int), _) else (_, _)).1) ≤ _
    split
    · simp
    · have := tk_size zs zs.length rfl (ptxs (fs t) zs zs.length (pnms zs zs.length (pnus zs zs.length (pnms zs zs.length (some 0) (fs t).nf).2 (fs t).wd (fs t).nu).2 ((fs t).nn - (fs t).nf)).2).2 (lft zs.length (ptxs (fs t) zs zs.length (pnms zs zs.length (pnus zs zs.length (pnms zs zs.length (some 0) (fs t).nf).2 (fs t).wd (fs t).nu).2 ((fs t).nn - (fs t).nf)).2).2)
      simp only
      omega
theorem ret4 {w W : World} {b : Nat} {y : DA} (h : DBlk W b y) (hb : Below w.heap.size w W) (hw : w.heap.size ≤ b) (x : DA) : DBlk (set4 W b x) b x ∧ Below w.heap.size w (set4 W b x) :=
  ⟨set4_blk h x, (((hb.setCell (p := ⟨b, 0, none⟩) hw _).setCell (p := ⟨b, 1, none⟩) hw _).setCell (p := ⟨b, 2, none⟩) hw _).setCell (p := ⟨b, 3, none⟩) hw _⟩
end Go.Proofs.YtkjnbgekaifdfaaGreat
namespace Go.Proofs.YtkjnbgekaifdfaaGreat
open Go.ChangeShapes Go.WideShapes Go.ChangeAt Go.RowKit
set_option linter.unusedVariables false
set_option linter.unusedSimpArgs false
theorem grown_below {w w' : World} (h : w.grownBy w' none) : Below w.heap.size w w' := ⟨h.os, h.tape, h.output, h.size, fun j hj => h.block j hj (by simp)⟩
theorem al_below {w W : World} {B : Nat} {o : Obj} (h : Below B w W) (hB : B ≤ w.heap.size) : Below B w (W.alloc o) := h.alloc (Nat.le_trans hB h.size) _
theorem BOwn.offTy {B : Nat} {w w' : World} {s : Sl} {zs : List Int} (h : BOwn B w s zs) (hg : ∃ o, w.grownBy w' o ∧ ∀ j, o = some j → B ≤ j ∧ ∃ zs, BlkV w j 51 zs) : BOwn B w' s zs := by
  obtain ⟨o, h1, h2⟩ := hg
  obtain ⟨ys, h3, h4⟩ := h
  refine ⟨ys, ?_, h4⟩
  rcases h3 with h3 | ⟨g, e1, e2, e3, e4⟩
  · exact .inl h3
  · refine .inr ⟨g, e1, e2, e3.same (h1.block g e3.lt (fun e => ?_)), e4⟩
    obtain ⟨_, zs', hz'⟩ := h2 g e.symm
    have hh := e3.1
    have hh' : w.heap[g]? = some (.cells zs'.toArray 51 (0, 0)) := hz'
    rw [hh] at hh'
    injection hh' with hh'
    injection hh' with _ hh'
    exact absurd hh' (by decide)
end Go.Proofs.YtkjnbgekaifdfaaGreat
namespace Go.Proofs.YtkjnbgekaifdfaaGreat
open Go.ChangeShapes Go.WideShapes Go.ChangeAt Go.RowKit
set_option linter.unusedVariables false
set_option linter.unusedSimpArgs false
/-- A name of one's own. -/
def Owx1 (B : Nat) (w : World) (s : Sl) (nm : List ByteArray) : Prop := ∃ ys, OwnT B w (.slice s.a s.n s.c) nm.length ys 9223372036854775807 ∧ ys.take nm.length = nm
theorem Owx1.keep {B : Nat} {w w' : World} {s : Sl} {nm : List ByteArray} (h : Owx1 B w s nm) (hb : ∀ j, B ≤ j → j < w.heap.size → (∃ zs, BlkV w j 9 zs) → w'.heap[j]? = w.heap[j]?) : Owx1 B w' s nm := by
  obtain ⟨ys, ⟨h1, h2⟩, h3⟩ := h
  refine ⟨ys, ⟨?_, h2⟩, h3⟩
  rcases h1 with h1 | ⟨g, e, hg, hblk, hn⟩
  · exact .inl h1
  · exact .inr ⟨g, e, hg, hblk.same (hb g hg hblk.lt ⟨_, hblk⟩), hn⟩
theorem Owx1.rd {B : Nat} {w : World} {s : Sl} {nm : List ByteArray} (h : Owx1 B w s nm) : TRd w s nm := by
  obtain ⟨ys, h1, h3⟩ := h
  obtain ⟨ao, e, hnil⟩ := h1.shape
  have hle := h1.le
  obtain ⟨sa, sn, sc⟩ := s
  simp only at e h1
  injection e with e1 e2 e3
  subst e1 e2 e3
  have hrd := h1.rd nm.length
  rw [h3] at hrd
  refine ⟨hrd, rfl, ⟨hle.1, by have := hle.2; simp only [maxLen] at this; exact this⟩, hnil, fun x hx => ?_⟩
  have : x ∈ ys := by rw [← h3] at hx; exact List.mem_of_mem_take hx
  have := h1.2 x this
  omega
/-- A list of names of one's own, from the block B on. -/
def OwxN (B : Nat) (w : World) (v : Value) (nss : List (List ByteArray)) : Prop :=
  ∃ xs, OwnV B w 51 v nss.length xs ∧ ∀ i (hi : i < nss.length), ∃ s : Sl, xs[i]? = some (.slice s.a s.n s.c) ∧ Owx1 B w s nss[i]
theorem OwxN.nil (B : Nat) (w : World) : OwxN B w (.slice none 0 0) [] := ⟨[], OwnV.nil B w 51, fun i hi => absurd hi (by simp)⟩
theorem OwxN.keep {B : Nat} {w w' : World} {v : Value} {nss : List (List ByteArray)} (h : OwxN B w v nss) (hb : ∀ j, B ≤ j → j < w.heap.size → w'.heap[j]? = w.heap[j]?) : OwxN B w' v nss := by
  obtain ⟨xs, h1, h2⟩ := h
  refine ⟨xs, h1.keep (fun j e hj => hb j (h1.lt j e) hj), fun i hi => ?_⟩
  obtain ⟨s, e1, e2⟩ := h2 i hi
  exact ⟨s, e1, e2.keep (fun j h1 h2 _ => hb j h1 h2)⟩
theorem OwxN.rd {B : Nat} {w : World} {s : Sl} {nss : List (List ByteArray)} (h : OwxN B w (.slice s.a s.n s.c) nss) : NRd w s nss := by
  obtain ⟨a, n, c⟩ := s
  obtain ⟨xs, h1, h2⟩ := h
  rcases h1 with ⟨e, e0, rfl⟩ | ⟨g, e, hg, hblk, hn, hm⟩
  · injection e with e1 e2 e3
    simp only at e1 e2 e3
    subst e1 e2 e3
    exact ⟨.inl (List.eq_nil_of_length_eq_zero e0), e0, ⟨Nat.le_refl _, Nat.zero_le _⟩, fun _ => rfl⟩
  · injection e with e1 e2 e3
    simp only at e1 e2 e3
    subst e1 e2 e3
    refine ⟨.inr ⟨g, 0, rfl, hblk.lt, fun i hi => ?_⟩, rfl, ⟨hn, by simp only [maxLen] at hm; exact hm⟩, by simp⟩
    obtain ⟨s, e1, e2⟩ := h2 i hi
    refine ⟨s, ?_, e2.rd⟩
    rw [Nat.zero_add, hblk.cell i (by omega)]
    rw [List.getElem?_eq_getElem (by omega)] at e1
    exact e1
/-- Data of one's own. -/
def DOwx (B : Nat) (w : World) (x : DA) (d : Dat) : Prop := OwxN B w (.slice x.p1.a x.p1.n x.p1.c) d.ns ∧ UOwn B w x.p2 d.us ∧ Owx1 B w x.p3 d.ts ∧ BOwn B w x.p4 d.raw
theorem DOwx.keep {B : Nat} {w w' : World} {x : DA} {d : Dat} (h : DOwx B w x d) (hb : ∀ j, B ≤ j → j < w.heap.size → w'.heap[j]? = w.heap[j]?) : DOwx B w' x d :=
  ⟨h.1.keep hb, h.2.1.keep hb, h.2.2.1.keep (fun j h1 h2 _ => hb j h1 h2), h.2.2.2.keep hb⟩
theorem DOwx.rd {B : Nat} {w : World} {x : DA} {d : Dat} (h : DOwx B w x d) : DRd w x d := ⟨h.1.rd, h.2.1.rd, h.2.2.1.rd, h.2.2.2.rd⟩
theorem Owx1.stays {B : Nat} {w w' : World} {s : Sl} {nm : List ByteArray} (h : Owx1 B w s nm) (hb : Below w.heap.size w w') : Owx1 B w' s nm := h.keep fun j _ h2 _ => hb.block j h2
theorem Owx1.mono {B B' : Nat} {w : World} {s : Sl} {nm : List ByteArray} (h : Owx1 B w s nm) (hB : B' ≤ B) : Owx1 B' w s nm := by
  obtain ⟨ys, h1, h2⟩ := h
  exact ⟨ys, h1.mono hB, h2⟩
theorem OwxN.mono {B B' : Nat} {w : World} {v : Value} {nss : List (List ByteArray)} (h : OwxN B w v nss) (hB : B' ≤ B) : OwxN B' w v nss := by
  obtain ⟨xs, h1, h2⟩ := h
  refine ⟨xs, h1.mono hB, fun i hi => ?_⟩
  obtain ⟨s, e1, e2⟩ := h2 i hi
  exact ⟨s, e1, e2.mono hB⟩
theorem Owx1.offTy {B : Nat} {w w' : World} {s : Sl} {us : List ByteArray} (h : Owx1 B w s us) (hg : ∃ o, w.grownBy w' o ∧ ∀ j, o = some j → B ≤ j ∧ ∃ zs, BlkV w j 51 zs) : Owx1 B w' s us := by
  obtain ⟨o, h1, h2⟩ := hg
  refine h.keep fun j _ hj ⟨zs, hz⟩ => h1.block j hj (fun e => ?_)
  obtain ⟨_, zs', hz'⟩ := h2 j e.symm
  exact absurd (blk_ty hz hz') (by decide)
theorem OwxN.keepTy {B : Nat} {w w' : World} {v : Value} {nss : List (List ByteArray)} (h : OwxN B w v nss) (hb : ∀ j, B ≤ j → j < w.heap.size → (∃ t zs, BlkV w j t zs ∧ (t = 51 ∨ t = 9)) → w'.heap[j]? = w.heap[j]?) : OwxN B w' v nss := by
  obtain ⟨xs, h1, h2⟩ := h
  refine ⟨xs, ?_, fun i hi => ?_⟩
  · rcases h1 with h1 | ⟨g, e, hg, hblk, hn⟩
    · exact .inl h1
    · exact .inr ⟨g, e, hg, hblk.same (hb g hg hblk.lt ⟨_, _, hblk, .inl rfl⟩), hn⟩
  · obtain ⟨s, e1, e2⟩ := h2 i hi
    exact ⟨s, e1, e2.keep (fun j h1 h2 ⟨zs, hz⟩ => hb j h1 h2 ⟨_, zs, hz, .inr rfl⟩)⟩
theorem DOwx.mono {B B' : Nat} {w : World} {x : DA} {d : Dat} (h : DOwx B w x d) (hB : B' ≤ B) : DOwx B' w x d := ⟨h.1.mono hB, h.2.1.mono hB, h.2.2.1.mono hB, h.2.2.2.mono hB⟩
theorem DOwx.ret4 {B B' : Nat} {W : World} {b : Nat} {x : DA} {d : Dat} (h : DOwx B W x d) (hb : b < B) (hB : B' ≤ B) : DOwx B' (set4 W b x) x d := (h.keep (fun j hj _ => set4_off W b x j (by omega))).mono hB
theorem DOwx.stays {B : Nat} {w w' : World} {x : DA} {d : Dat} (h : DOwx B w x d) (hb : Below w.heap.size w w') : DOwx B w' x d := h.keep fun j _ hj => hb.block j hj
/-- Texts copied. -/
theorem sq_ct {w : World} {ops : Array Oper} {o : Oper} {a : Act} {K : Act → World → Prop} {Q : Exit → Act → World → Prop} {E : Prop} (hgd : o.guard = none) (s x : Operand)
    (ho : o.op = .call { callee := .builtin .append, args := #[s, x], argTypes := #[50, 50] }) (B : Nat) (hs : a.eval s = .slice none 0 0) (a2 : Option Addr) (n2 c2 : Nat) (ts : List ByteArray) (hx : a.eval x = .slice a2 n2 c2) (hr : TRd w ⟨a2, n2, c2⟩ ts) (hn : ts.length ≤ 8796093022000) (hm : ∀ y ∈ ts, y.size ≤ 9223372036854775807) (hB : B ≤ w.heap.size)
    (h : ∀ (t' : Sl) w', Hid (Owx1 B w' t' ts ∧ Below w.heap.size w w') → K (a.put o.dst (.slice t'.a t'.n t'.c)) w') :
    if Region.wanted o (yielded ops a.tmps) = true then Oper.wp Tryz.prog o a w K Q else E := by
  have hl : ts.length = n2 := hr.len
  have hw : Region.wanted o (yielded ops a.tmps) = true := by simp [Region.wanted, hgd]
  rw [if_pos hw]
  obtain ⟨v', w', xs', hrun, h2, h3, h4, h5⟩ := run_append_row tyT w B 50 o.type (.slice none 0 0) 0 [] (OwnV.nil B w 9) _ n2 (tv ts) (src_of (c := c2) Tryz.underlying50 hr.rd (by rw [tv_len]; exact hl) (tv_one ts)) (by omega) (by simp only [maxLen]; omega) hB
  unfold Oper.wp execOp
  simp only [ho, resolve, invoke, builtin, Sem.run_bind, Sem.run_pure, Result.andThen_ok, List.map_toArray, List.map_cons, List.map_nil, hs, hx, hrun]
  obtain ⟨ys, rfl, hys⟩ := tv_of (M := 9223372036854775807) xs' (h5.1 (QS 9223372036854775807) ⟨⟨#[]⟩, rfl, Nat.zero_le _⟩ (by simp) (qs_tv hm))
  obtain ⟨ao', rfl, _⟩ := OwnV.shape h2
  refine h ⟨ao', 0 + n2, (tv ys).length⟩ w' ⟨⟨ys, ⟨?_, hys⟩, ?_⟩, grown_below h4⟩
  · rw [hl]; simpa using h2
  · have h2' := h3
    rw [tv_take] at h2'
    rw [hl]
    have := tv_inj (a := ys.take (0 + n2)) (b := ts) (by simpa using h2')
    simpa using this
/-- Three lists copied, and a box for them. -/
structure CqS (W1 W : World) (D : Nat) (tu tt tb : Sl) (d : Dat) : Prop where
  u : UOwn W1.heap.size W tu d.us
  t : Owx1 W1.heap.size W tt d.ts
  b : BOwn W1.heap.size W tb d.raw
  blk : DBlk W D ⟨⟨none, 0, 0⟩, tu, tt, tb⟩
  bel : Below W1.heap.size W1 W
  low : W1.heap.size ≤ D
theorem cqs_new {W1 W : World} {tu tt tb : Sl} {d : Dat} (h1 : UOwn W1.heap.size W tu d.us) (h2 : Owx1 W1.heap.size W tt d.ts) (h3 : BOwn W1.heap.size W tb d.raw) (hb : Below W1.heap.size W1 W) :
    CqS W1 (W.alloc (.cells #[.slice none 0 0, .slice tu.a tu.n tu.c, .slice tt.a tt.n tt.c, .slice tb.a tb.n tb.c] 60)) W.heap.size tu tt tb d := by
  have hn := new_below W (.cells #[.slice none 0 0, .slice tu.a tu.n tu.c, .slice tt.a tt.n tt.c, .slice tb.a tb.n tb.c] 60)
  exact ⟨h1.stays hn, h2.stays hn, h3.stays hn, heap_alloc_new _ _, hb.trans (hn.mono hb.size), hb.size⟩
theorem cqs_set {W1 W : World} {D : Nat} {y : DA} {tu tt tb : Sl} {d : Dat} (h1 : UOwn W1.heap.size W tu d.us) (h2 : Owx1 W1.heap.size W tt d.ts) (h3 : BOwn W1.heap.size W tb d.raw) (hb : Below W1.heap.size W1 W) (hD : DBlk W D y) (hl : W1.heap.size ≤ D) :
    CqS W1 ((((W.setCell ⟨D, 0, none⟩ (.slice none 0 0)).setCell ⟨D, 1, none⟩ (.slice tu.a tu.n tu.c)).setCell ⟨D, 2, none⟩ (.slice tt.a tt.n tt.c)).setCell ⟨D, 3, none⟩ (.slice tb.a tb.n tb.c)) D tu tt tb d := by
  have e := set4_off W D ⟨⟨none, 0, 0⟩, tu, tt, tb⟩
  refine ⟨h1.keepTy ?_, h2.keep ?_, h3.keepD hD e, set4_blk hD ⟨⟨none, 0, 0⟩, tu, tt, tb⟩, ?_, hl⟩
  · rintro j _ _ ⟨zs, hz⟩
    exact e j (hD.ne hz (by decide))
  · rintro j _ _ ⟨zs, hz⟩
    exact e j (hD.ne hz (by decide))
  · exact (((hb.setCell (p := ⟨D, 0, none⟩) hl _).setCell (p := ⟨D, 1, none⟩) hl _).setCell (p := ⟨D, 2, none⟩) hl _).setCell (p := ⟨D, 3, none⟩) hl _
/-- A name appended, as a step of a region. -/
theorem sq_n1 {w : World} {ops : Array Oper} {o : Oper} {a : Act} {K : Act → World → Prop} {Q : Exit → Act → World → Prop} {E : Prop} (hgd : o.guard = none) (s x : Operand)
    (ho : o.op = .call { callee := .builtin .append, args := #[s, x], argTypes := #[57, 57] }) (B : Nat) (s1 : Sl) (nss : List (List ByteArray)) (hs : a.eval s = .slice s1.a s1.n s1.c) (hown : OwxN B w (.slice s1.a s1.n s1.c) nss)
    (ao : Addr) (hx : a.eval x = .slice (some ao) 1 1) (t : Sl) (nm : List ByteArray) (hr : RdV w (some ao) [.slice t.a t.n t.c]) (ht : Owx1 B w t nm) (hn : nss.length ≤ 5860000000000) (hB : B ≤ w.heap.size)
    (h : ∀ (t' : Sl) w', Hid (OwxN B w' (.slice t'.a t'.n t'.c) (nss ++ [nm])) → Hid (∃ o, w.grownBy w' o ∧ ∀ j, o = some j → B ≤ j ∧ ∃ zs, BlkV w j 51 zs) → K (a.put o.dst (.slice t'.a t'.n t'.c)) w') :
    if Region.wanted o (yielded ops a.tmps) = true then Oper.wp Tryz.prog o a w K Q else E := by
  obtain ⟨xs, h1, h2⟩ := hown
  refine step_append_row tyNs hgd s x 57 ho B _ nss.length xs hs h1 _ 1 [.slice t.a t.n t.c] hx (src_of Tryz.underlying57 hr rfl (by intro u hu; simp at hu; subst hu; rfl)) (by omega) (by simp only [maxLen]; omega) hB ?_
  intro v' w' xs' q1 q2 q3 q4
  obtain ⟨ao', rfl, _⟩ := q1.out.shape
  have hle := q1.out.le
  have hB1 : ∀ j, Value.ownBlock (.slice s1.a s1.n s1.c) = some j → B ≤ j ∧ ∃ zs, BlkV w j 51 zs := by
    intro j hj
    refine ⟨h1.lt j hj, ?_⟩
    rcases h1 with ⟨e3, _⟩ | ⟨g, e3, _, hblk, _⟩
    · rw [e3] at hj; cases hj
    · rw [e3] at hj
      have e4 : g = j := (Option.some.inj hj)
      subst e4
      exact ⟨_, hblk⟩
  have hkb : ∀ j, B ≤ j → j < w.heap.size → (∃ zs, BlkV w j 9 zs) → w'.heap[j]? = w.heap[j]? := by
    rintro j _ hj ⟨zs, hz⟩
    refine q3.out.block j hj (fun e => ?_)
    obtain ⟨_, zs', hz'⟩ := hB1 j e.symm
    exact absurd (blk_ty hz hz') (by decide)
  have hx' : xs'.take (nss.length + 1) = xs.take nss.length ++ [.slice t.a t.n t.c] := q2.out
  have hl : (xs.take nss.length).length = nss.length := by have := h1.le.1; rw [List.length_take]; omega
  refine h ⟨ao', nss.length + 1, xs'.length⟩ w' ⟨xs', by simpa using q1.out, fun i hi => ?_⟩ ⟨_, q3.out, hB1⟩
  rw [List.length_append, List.length_singleton] at hi
  by_cases hlt : i < nss.length
  · obtain ⟨s', e1, e2⟩ := h2 i hlt
    refine ⟨s', ?_, ?_⟩
    · have h3 : (xs'.take (nss.length + 1))[i]? = (xs.take nss.length ++ [.slice t.a t.n t.c])[i]? := by rw [hx']
      rw [List.getElem?_take_of_lt (by omega), List.getElem?_append_left (by omega), List.getElem?_take_of_lt hlt, e1] at h3
      exact h3
    · rw [List.getElem_append_left hlt]
      exact e2.keep hkb
  · have hie : i = nss.length := by omega
    subst hie
    refine ⟨t, ?_, ?_⟩
    · have h3 : (xs'.take (nss.length + 1))[nss.length]? = (xs.take nss.length ++ [.slice t.a t.n t.c])[nss.length]? := by rw [hx']
      rw [List.getElem?_take_of_lt (by omega), List.getElem?_append_right (by omega), hl] at h3
      simpa using h3
    · rw [List.getElem_append_right (by omega)]
      simp
      exact ht.keep hkb
/-- Copied, with some of the names. -/
structure CqN (W1 W : World) (D : Nat) (x : DA) (d : Dat) : Prop where
  own : DOwx W1.heap.size W x d
  blk : DBlk W D x
  bel : Below W1.heap.size W1 W
  low : W1.heap.size ≤ D
theorem CqS.start {W1 W : World} {D : Nat} {tu tt tb : Sl} {d : Dat} (h : CqS W1 W D tu tt tb d) : CqN W1 W D ⟨⟨none, 0, 0⟩, tu, tt, tb⟩ ⟨d.ns.take 0, d.us, d.ts, d.raw⟩ := ⟨⟨OwxN.nil _ _, h.u, h.t, h.b⟩, h.blk, h.bel, h.low⟩
theorem CqN.go {W1 W W' : World} {D : Nat} {x : DA} {d : Dat} (h : CqN W1 W D x d) (hb : Below W.heap.size W W') : CqN W1 W' D x d := ⟨h.own.stays hb, h.blk.same (hb.block D h.blk.lt), h.bel.trans (hb.mono h.bel.size), h.low⟩
theorem DOwx.set0 {B : Nat} {W : World} {D : Nat} {y x : DA} {d : Dat} (h : DOwx B W x d) (hD : DBlk W D y) (v : Value) : DOwx B (W.setCell ⟨D, 0, none⟩ v) x d := by
  have e : ∀ j, j ≠ D → (W.setCell ⟨D, 0, none⟩ v).heap[j]? = W.heap[j]? := fun j hj => Below.heap_setCell _ _ _ j hj
  refine ⟨h.1.keepTy ?_, h.2.1.keepTy ?_, h.2.2.1.keep ?_, h.2.2.2.keepD hD e⟩
  · rintro j _ _ ⟨t, zs, hz, ht⟩
    exact e j (hD.ne hz (by rcases ht with rfl | rfl <;> decide))
  · rintro j _ _ ⟨zs, hz⟩
    exact e j (hD.ne hz (by decide))
  · rintro j _ _ ⟨zs, hz⟩
    exact e j (hD.ne hz (by decide))
theorem CqN.step {W1 W W' : World} {D : Nat} {x : DA} {d : Dat} {t' : Sl} {nss : List (List ByteArray)} (h : CqN W1 W D x d) (ho : OwxN W1.heap.size W' (.slice t'.a t'.n t'.c) nss) (hg : ∃ o, W.grownBy W' o ∧ ∀ j, o = some j → W1.heap.size ≤ j ∧ ∃ zs, BlkV W j 51 zs) :
    CqN W1 (W'.setCell ⟨D, 0, none⟩ (.slice t'.a t'.n t'.c)) D ⟨t', x.p2, x.p3, x.p4⟩ ⟨nss, d.us, d.ts, d.raw⟩ := by
  have hD := h.blk.offTy hg
  have hown : DOwx W1.heap.size W' ⟨t', x.p2, x.p3, x.p4⟩ ⟨nss, d.us, d.ts, d.raw⟩ := ⟨ho, h.own.2.1.offTy hg, h.own.2.2.1.offTy hg, h.own.2.2.2.offTy hg⟩
  refine ⟨hown.set0 hD _, hD.set0 t', ?_, h.low⟩
  obtain ⟨o, g1, g2⟩ := hg
  have hb : Below W1.heap.size W1 W' := ⟨g1.os.trans h.bel.os, g1.tape.trans h.bel.tape, g1.output.trans h.bel.output, Nat.le_trans h.bel.size g1.size, fun j hj => (g1.block j (Nat.lt_of_lt_of_le hj h.bel.size) (fun e => by have := (g2 j e.symm).1; omega)).trans (h.bel.block j hj)⟩
  exact hb.setCell (p := ⟨D, 0, none⟩) h.low _
end Go.Proofs.YtkjnbgekaifdfaaGreat
namespace Go.Proofs.YtkjnbgekaifdfaaGreat
open Go.ChangeShapes Go.WideShapes Go.ChangeAt Go.RowKit
set_option linter.unusedVariables false
set_option linter.unusedSimpArgs false
/-- What the reach alone says of data. -/
structure Wb (d : Dat) : Prop where
  nn : d.ns.length ≤ 5860000000000
  nl : ∀ x ∈ d.ns, x.length ≤ 8796093022000
  un : d.us.length ≤ 35184372088832
  tn : d.ts.length ≤ 8796093022000
  tz : ∀ x ∈ d.ts, x.size ≤ 140737488355328
  r : d.raw.length ≤ 140737488355328
end Go.Proofs.YtkjnbgekaifdfaaGreat
namespace Go.Proofs.YtkjnbgekaifdfaaGreat
open Go.ChangeShapes Go.WideShapes Go.ChangeAt Go.RowKit
set_option linter.unusedVariables false
set_option linter.unusedSimpArgs false
/-- Numbers copied. -/
theorem sq_cu {w : World} {ops : Array Oper} {o : Oper} {a : Act} {K : Act → World → Prop} {Q : Exit → Act → World → Prop} {E : Prop} (hgd : o.guard = none) (s x : Operand)
    (ho : o.op = .call { callee := .builtin .append, args := #[s, x], argTypes := #[58, 58] }) (B : Nat) (hs : a.eval s = .slice none 0 0) (a2 : Option Addr) (n2 c2 : Nat) (us : List Nat) (hx : a.eval x = .slice a2 n2 c2) (hr : URd w ⟨a2, n2, c2⟩ us) (hn : us.length ≤ 35184372088832) (hB : B ≤ w.heap.size)
    (h : ∀ (t' : Sl) w', Hid (UOwn B w' t' us ∧ Below w.heap.size w w') → K (a.put o.dst (.slice t'.a t'.n t'.c)) w') :
    if Region.wanted o (yielded ops a.tmps) = true then Oper.wp Tryz.prog o a w K Q else E := by
  have hl : us.length = n2 := hr.len
  refine step_append_row tyU hgd s x 58 ho B _ 0 [] hs (OwnV.nil B w 56) _ n2 (uv us) hx (src_of Tryz.underlying58 hr.rd (by rw [uv_len]; exact hl) (by intro v hv; obtain ⟨y, _, rfl⟩ := List.mem_map.1 hv; rfl)) (by omega) (by simp only [maxLen]; omega) hB ?_
  intro v' w' xs' q1 q2 q3 q4
  obtain ⟨ao', rfl, _⟩ := q1.out.shape
  refine h ⟨ao', 0 + n2, xs'.length⟩ w' ⟨⟨xs', ?_, ?_, hr.bd, q4.out _ ⟨0, rfl, by omega, by omega⟩ (by simp) (by intro v hv; obtain ⟨y, hy, rfl⟩ := List.mem_map.1 hv; exact ⟨y, rfl, by omega, by have := hr.bd y hy; omega⟩)⟩, grown_below q3.out⟩
  · rw [hl]; simpa using q1.out
  · have := q2.out
    rw [hl]
    simpa using this
/-- Bytes copied. -/
theorem sq_cb {w : World} {ops : Array Oper} {o : Oper} {a : Act} {K : Act → World → Prop} {Q : Exit → Act → World → Prop} {E : Prop} (hgd : o.guard = none) (s x : Operand)
    (ho : o.op = .call { callee := .builtin .append, args := #[s, x], argTypes := #[29, 29] }) (B : Nat) (hs : a.eval s = .slice none 0 0) (a2 : Option Addr) (n2 c2 : Nat) (zs : List Int) (hx : a.eval x = .slice a2 n2 c2) (hr : BRd w ⟨a2, n2, c2⟩ zs) (hn : zs.length ≤ 140737488355328) (hB : B ≤ w.heap.size)
    (h : ∀ (t' : Sl) w', Hid (BOwn B w' t' zs ∧ Below w.heap.size w w') → K (a.put o.dst (.slice t'.a t'.n t'.c)) w') :
    if Region.wanted o (yielded ops a.tmps) = true then Oper.wp Tryz.prog o a w K Q else E := by
  have hl : zs.length = n2 := hr.len
  refine step_append_blk hgd s x ho B _ 0 [] hs (.inl ⟨rfl, rfl, rfl⟩) a2 n2 c2 zs hx hr.rd n2 hl (by omega) hr.nil (by omega) hB ?_
  intro v' w' zs' q1 q2 q3
  obtain ⟨ao', rfl, _⟩ := q1.out.addr
  refine h ⟨ao', n2, zs'.length⟩ w' ⟨⟨zs', ?_, ?_⟩, grown_below q3.out⟩
  · rw [hl]; exact q1.out
  · have := q2.out
    rw [hl]
    simpa using this
set_option maxRecDepth 100000 in
set_option maxHeartbeats 8000000 in
theorem copy5_wide (x : DA) (d : Dat) (w : World) (h : DRd w x d) (hW : Wb d) :
    Calls Tryz.prog 66 #[.agg #[.slice x.p1.a x.p1.n x.p1.c, .slice x.p2.a x.p2.n x.p2.c, .slice x.p3.a x.p3.n x.p3.c, .slice x.p4.a x.p4.n x.p4.c]] w fun e w' => ∃ y : DA, e = .returned (.agg #[.slice y.p1.a y.p1.n y.p1.c, .slice y.p2.a y.p2.n y.p2.c, .slice y.p3.a y.p3.n y.p3.c, .slice y.p4.a y.p4.n y.p4.c]) ∧ Hid (DOwx w.heap.size w' y d ∧ Below w.heap.size w w') := by
  have hbx := new_below w (.cells #[.slice x.p1.a x.p1.n x.p1.c, .slice x.p2.a x.p2.n x.p2.c, .slice x.p3.a x.p3.n x.p3.c, .slice x.p4.a x.p4.n x.p4.c] 60)
  have HS : Hid (DBlk (w.alloc (.cells #[.slice x.p1.a x.p1.n x.p1.c, .slice x.p2.a x.p2.n x.p2.c, .slice x.p3.a x.p3.n x.p3.c, .slice x.p4.a x.p4.n x.p4.c] 60)) w.heap.size x ∧ DRd (w.alloc (.cells #[.slice x.p1.a x.p1.n x.p1.c, .slice x.p2.a x.p2.n x.p2.c, .slice x.p3.a x.p3.n x.p3.c, .slice x.p4.a x.p4.n x.p4.c] 60)) x d ∧ Below w.heap.size w (w.alloc (.cells #[.slice x.p1.a x.p1.n x.p1.c, .slice x.p2.a x.p2.n x.p2.c, .slice x.p3.a x.p3.n x.p3.c, .slice x.p4.a x.p4.n x.p4.c] 60))) := ⟨heap_alloc_new _ _, h.below hbx, hbx⟩
  have HB : Hid (Wb d) := hW
  have HZ0 : Hid ((w.alloc (.cells #[.slice x.p1.a x.p1.n x.p1.c, .slice x.p2.a x.p2.n x.p2.c, .slice x.p3.a x.p3.n x.p3.c, .slice x.p4.a x.p4.n x.p4.c] 60)).heap.size = w.heap.size + 1) := by show _ = _; simp
  have HT : Hid (d.ts.length ≤ 8796093022000 ∧ ∀ y ∈ d.ts, y.size ≤ 9223372036854775807) := ⟨hW.tn, fun y hy => by have := hW.tz y hy; omega⟩
  clear h hbx
  obtain ⟨⟨a1, n1, k1⟩, ⟨a2, n2, k2⟩, ⟨a3, n3, k3⟩, ⟨a4, n4, k4⟩⟩ := x
  simp only at HS HZ0 ⊢
  go_enter Tryz.func66, Tryz.ntmps66
  go_upto_region 1 with fail
  generalize (w.alloc (.cells #[.slice a1 n1 k1, .slice a2 n2 k2, .slice a3 n3 k3, .slice a4 n4 k4] 60)) = W0 at *
  obtain ⟨b, hb⟩ : ∃ b, b = w.heap.size := ⟨_, rfl⟩
  rw [← hb] at HS HZ0 ⊢
  have Hb : Hid (b = w.heap.size) := hb
  clear hb
  have hz0 := HS.out.1.lt
  have HS1 : Hid (DBlk (W0.alloc (.cells #[.slice none 0 0, .slice none 0 0, .slice none 0 0, .slice none 0 0] 60)) b ⟨⟨a1, n1, k1⟩, ⟨a2, n2, k2⟩, ⟨a3, n3, k3⟩, ⟨a4, n4, k4⟩⟩ ∧ DBlk (W0.alloc (.cells #[.slice none 0 0, .slice none 0 0, .slice none 0 0, .slice none 0 0] 60)) (b + 1) nilDA ∧ DRd (W0.alloc (.cells #[.slice none 0 0, .slice none 0 0, .slice none 0 0, .slice none 0 0] 60)) ⟨⟨a1, n1, k1⟩, ⟨a2, n2, k2⟩, ⟨a3, n3, k3⟩, ⟨a4, n4, k4⟩⟩ d ∧ Below b w (W0.alloc (.cells #[.slice none 0 0, .slice none 0 0, .slice none 0 0, .slice none 0 0] 60)) ∧ (W0.alloc (.cells #[.slice none 0 0, .slice none 0 0, .slice none 0 0, .slice none 0 0] 60)).heap.size = b + 2) := by
    have hn := new_below W0 (.cells #[.slice none 0 0, .slice none 0 0, .slice none 0 0, .slice none 0 0] 60)
    have hD := dblk_new W0
    rw [HZ0.out] at hD
    exact ⟨HS.out.1.same (hn.block _ HS.out.1.lt), hD, HS.out.2.1.below hn, HS.out.2.2.trans (hn.mono (by omega)), by simp [HZ0.out]⟩
  clear HS HZ0 hz0
  generalize (W0.alloc (.cells #[.slice none 0 0, .slice none 0 0, .slice none 0 0, .slice none 0 0] 60)) = W1 at *
  have HK0 : Hid (DBlk W1.drew b ⟨⟨a1, n1, k1⟩, ⟨a2, n2, k2⟩, ⟨a3, n3, k3⟩, ⟨a4, n4, k4⟩⟩) := HS1.out.1
  have HD0 : Hid (DRd W1.drew ⟨⟨a1, n1, k1⟩, ⟨a2, n2, k2⟩, ⟨a3, n3, k3⟩, ⟨a4, n4, k4⟩⟩ d) := HS1.out.2.2.1.below (Below.refl _ _).drew
  have HB0 : Hid (Below W1.heap.size W1 W1.drew) := (Below.refl _ _).drew
  have c1 : W1.cell? ⟨b, 1, none⟩ = some (.slice a2 n2 k2) := HS1.out.1.box.2.1
  have c2 : W1.cell? ⟨b, 2, none⟩ = some (.slice a3 n3 k3) := HS1.out.1.box.2.2.1
  have c3 : W1.cell? ⟨b, 3, none⟩ = some (.slice a4 n4 k4) := HS1.out.1.box.2.2.2.1
  have hbl := HS1.out.1.lt
  go_cut [3] from 6 to 15 (fun s3 wx => ∃ (D : Nat) (tu tt tb : Sl), s3 = .pointer (some ⟨D, 0, none⟩) ∧ Hid (CqS W1 wx D tu tt tb d))
  case first =>
    have hb1 : ¬ b = W1.heap.size := by omega
    go_region_held3 (fun W => W.cell? ⟨b, 1, none⟩ = some (.slice a2 n2 k2) ∧ W.cell? ⟨b, 2, none⟩ = some (.slice a3 n3 k3) ∧ W.cell? ⟨b, 3, none⟩ = some (.slice a4 n4 k4)) (exact ⟨by go_keep, by go_keep, by go_keep⟩) (first
      | (refine sq_cu rfl _ _ rfl W1.heap.size rfl a2 n2 k2 d.us rfl (by first | exact HD0.out.h2 | exact HD0.out.h2.below (new_below _ _)) HB.out.un (by first | exact HB0.out.size | exact (al_below HB0.out (Nat.le_refl _)).size) ?_; intro tu Wu Hu; have HBu : Hid (Below W1.heap.size W1 Wu) := (by first | exact HB0.out.trans (Hu.out.2.mono HB0.out.size) | exact (al_below HB0.out (Nat.le_refl _)).trans (Hu.out.2.mono (al_below HB0.out (Nat.le_refl _)).size)); have HKu : Hid (DBlk Wu b ⟨⟨a1, n1, k1⟩, ⟨a2, n2, k2⟩, ⟨a3, n3, k3⟩, ⟨a4, n4, k4⟩⟩) := (by first | exact HK0.out.same (Hu.out.2.block _ HK0.out.lt) | exact (HK0.out.same ((new_below _ _).block _ HK0.out.lt)).same (Hu.out.2.block _ (Nat.lt_of_lt_of_le HK0.out.lt (new_below _ _).size))); have HDu : Hid (DRd Wu ⟨⟨a1, n1, k1⟩, ⟨a2, n2, k2⟩, ⟨a3, n3, k3⟩, ⟨a4, n4, k4⟩⟩ d) := (by first | exact HD0.out.below Hu.out.2 | exact (HD0.out.below (new_below _ _)).below Hu.out.2); have e1 : Wu.cell? ⟨b, 1, none⟩ = some (.slice a2 n2 k2) := (HKu.out).box.2.1; have e2 : Wu.cell? ⟨b, 2, none⟩ = some (.slice a3 n3 k3) := (HKu.out).box.2.2.1; have e3 : Wu.cell? ⟨b, 3, none⟩ = some (.slice a4 n4 k4) := (HKu.out).box.2.2.2.1; have el : b < Wu.heap.size := (HKu.out).lt; (try (have hDu : Hid (DBlk Wu W1.heap.size nilDA) := (show DBlk (W1.drew.alloc (.cells #[.slice none 0 0, .slice none 0 0, .slice none 0 0, .slice none 0 0] 60)) W1.heap.size nilDA from dblk_new W1.drew).same (Hu.out.2.block _ (show DBlk (W1.drew.alloc (.cells #[.slice none 0 0, .slice none 0 0, .slice none 0 0, .slice none 0 0] 60)) W1.heap.size nilDA from dblk_new W1.drew).lt)); (try (have x0 := hDu.out.fz 0; have x1 := hDu.out.fz 1; have x2 := hDu.out.fz 2; have x3 := hDu.out.fz 3; have y0 := hDu.out.box.1; have y1 := hDu.out.box.2.1; have y2 := hDu.out.box.2.2.1; have y3 := hDu.out.box.2.2.2.1; (try simp only at y0 y1 y2 y3)))))
      | (refine sq_ct rfl _ _ rfl W1.heap.size rfl a3 n3 k3 d.ts rfl (by first | exact HDu.out.h3 | exact HDu.out.h3.below (new_below _ _)) HT.out.1 HT.out.2 (by first | exact HBu.out.size | exact (al_below HBu.out (Nat.le_refl _)).size) ?_; intro tt Wt Ht; have HBt : Hid (Below W1.heap.size W1 Wt) := (by first | exact HBu.out.trans (Ht.out.2.mono HBu.out.size) | exact (al_below HBu.out (Nat.le_refl _)).trans (Ht.out.2.mono (al_below HBu.out (Nat.le_refl _)).size)); have HKt : Hid (DBlk Wt b ⟨⟨a1, n1, k1⟩, ⟨a2, n2, k2⟩, ⟨a3, n3, k3⟩, ⟨a4, n4, k4⟩⟩) := (by first | exact HKu.out.same (Ht.out.2.block _ HKu.out.lt) | exact (HKu.out.same ((new_below _ _).block _ HKu.out.lt)).same (Ht.out.2.block _ (Nat.lt_of_lt_of_le HKu.out.lt (new_below _ _).size))); have HDt : Hid (DRd Wt ⟨⟨a1, n1, k1⟩, ⟨a2, n2, k2⟩, ⟨a3, n3, k3⟩, ⟨a4, n4, k4⟩⟩ d) := (by first | exact HDu.out.below Ht.out.2 | exact (HDu.out.below (new_below _ _)).below Ht.out.2); have HUt : Hid (UOwn W1.heap.size Wt tu d.us) := (by first | exact (Hu.out.1).stays Ht.out.2 | exact ((Hu.out.1).stays (new_below _ _)).stays Ht.out.2); have f1 : Wt.cell? ⟨b, 1, none⟩ = some (.slice a2 n2 k2) := (HKt.out).box.2.1; have f2 : Wt.cell? ⟨b, 2, none⟩ = some (.slice a3 n3 k3) := (HKt.out).box.2.2.1; have f3 : Wt.cell? ⟨b, 3, none⟩ = some (.slice a4 n4 k4) := (HKt.out).box.2.2.2.1; have fl : b < Wt.heap.size := (HKt.out).lt; (try (have hDt : Hid (DBlk Wt Wu.heap.size nilDA) := (dblk_new Wu).same (Ht.out.2.block _ (dblk_new Wu).lt))); (try (have hDt : Hid (DBlk Wt W1.heap.size nilDA) := hDu.out.same (Ht.out.2.block _ hDu.out.lt))); (try (have x0 := hDt.out.fz 0; have x1 := hDt.out.fz 1; have x2 := hDt.out.fz 2; have x3 := hDt.out.fz 3; have y0 := hDt.out.box.1; have y1 := hDt.out.box.2.1; have y2 := hDt.out.box.2.2.1; have y3 := hDt.out.box.2.2.2.1; (try simp only at y0 y1 y2 y3))))
      | (refine sq_cb rfl _ _ rfl W1.heap.size rfl a4 n4 k4 d.raw rfl (by first | exact HDt.out.h4 | exact HDt.out.h4.below (new_below _ _)) HB.out.r (by first | exact HBt.out.size | exact (al_below HBt.out (Nat.le_refl _)).size) ?_; intro tb Wv Hv; have HBv : Hid (Below W1.heap.size W1 Wv) := (by first | exact HBt.out.trans (Hv.out.2.mono HBt.out.size) | exact (al_below HBt.out (Nat.le_refl _)).trans (Hv.out.2.mono (al_below HBt.out (Nat.le_refl _)).size)); have HKv : Hid (DBlk Wv b ⟨⟨a1, n1, k1⟩, ⟨a2, n2, k2⟩, ⟨a3, n3, k3⟩, ⟨a4, n4, k4⟩⟩) := (by first | exact HKt.out.same (Hv.out.2.block _ HKt.out.lt) | exact (HKt.out.same ((new_below _ _).block _ HKt.out.lt)).same (Hv.out.2.block _ (Nat.lt_of_lt_of_le HKt.out.lt (new_below _ _).size))); have HUv : Hid (UOwn W1.heap.size Wv tu d.us) := (by first | exact (HUt.out).stays Hv.out.2 | exact ((HUt.out).stays (new_below _ _)).stays Hv.out.2); have HTv : Hid (Owx1 W1.heap.size Wv tt d.ts) := (by first | exact (Ht.out.1).stays Hv.out.2 | exact ((Ht.out.1).stays (new_below _ _)).stays Hv.out.2); have g1 : Wv.cell? ⟨b, 1, none⟩ = some (.slice a2 n2 k2) := (HKv.out).box.2.1; have g2 : Wv.cell? ⟨b, 2, none⟩ = some (.slice a3 n3 k3) := (HKv.out).box.2.2.1; have g3 : Wv.cell? ⟨b, 3, none⟩ = some (.slice a4 n4 k4) := (HKv.out).box.2.2.2.1; have gl : b < Wv.heap.size := (HKv.out).lt; (try (have hDv : Hid (DBlk Wv Wt.heap.size nilDA) := (dblk_new Wt).same (Hv.out.2.block _ (dblk_new Wt).lt))); (try (have hDv : Hid (DBlk Wv Wu.heap.size nilDA) := hDt.out.same (Hv.out.2.block _ hDt.out.lt))); (try (have hDv : Hid (DBlk Wv W1.heap.size nilDA) := hDt.out.same (Hv.out.2.block _ hDt.out.lt))); (try (have x0 := hDv.out.fz 0; have x1 := hDv.out.fz 1; have x2 := hDv.out.fz 2; have x3 := hDv.out.fz 3; have y0 := hDv.out.box.1; have y1 := hDv.out.box.2.1; have y2 := hDv.out.box.2.2.1; have y3 := hDv.out.box.2.2.2.1; (try simp only at y0 y1 y2 y3))); have hbD : ¬ b = Wt.heap.size := (by omega); have hbD' : ¬ Wt.heap.size = b := (by omega); have hbD2 : ¬ b = Wu.heap.size := (by omega); have hbD2' : ¬ Wu.heap.size = b := (by omega); have hbD3 : ¬ b = W1.heap.size := (by omega); have hbD3' : ¬ W1.heap.size = b := (by omega)))
    all_goals
      go_wp2_with fail
      go_meet
      first
        | exact ⟨_, tu, tt, tb, rfl, cqs_new HUv.out HTv.out Hv.out.1 HBv.out⟩
        | exact ⟨_, tu, tt, tb, rfl, cqs_set HUv.out HTv.out Hv.out.1 HBv.out hDv.out (by first | exact HBt.out.size | exact HBu.out.size | exact Nat.le_refl _)⟩
  case rest =>
    obtain ⟨D, tu, tt, tb, rfl, HC⟩ := hcut
    clear HB0 HD0 HK0 c1 c2 c3 hbl
    have HCN : Hid (∃ tn : Sl, CqN W1 wc D ⟨tn, tu, tt, tb⟩ ⟨d.ns.take 0, d.us, d.ts, d.raw⟩) := ⟨_, HC.out.start⟩
    have c0 : wc.cell? ⟨b, 0, none⟩ = some (.slice a1 n1 k1) := (HS1.out.1.same (HC.out.bel.block b HS1.out.1.lt)).box.1
    have hn1 : d.ns.length = n1 := HS1.out.2.2.1.h1.len
    have HLN : Hid (d.ns.length = n1) := hn1
    have hn1b : n1 ≤ 5860000000000 := by rw [← hn1]; exact HB.out.nn
    have HNN : Hid (∀ n ∈ d.ns, n.length ≤ 8796093022000) := hW.nl
    clear HC hn1 hW HB HT
    go_wp2_with fail
    clear c0
    go_loopw [19] (fun v wr => ∃ k : Nat, k ≤ n1 ∧ v = .int .i64 (k : Int) ∧ Hid (∃ tn : Sl, CqN W1 wr D ⟨tn, tu, tt, tb⟩ ⟨d.ns.take k, d.us, d.ts, d.raw⟩)) (fun v _ => n1 - (intOf v).toNat)
    case atStart => exact ⟨0, Nat.zero_le _, rfl, HCN⟩
    case round =>
      clear HCN
      obtain ⟨k, hk, rfl, HG⟩ := hrel
      obtain ⟨tn, HGn⟩ : ∃ tn : Sl, Hid (CqN W1 wr D ⟨tn, tu, tt, tb⟩ ⟨d.ns.take k, d.us, d.ts, d.raw⟩) := HG.out
      clear HG
      have HG : Hid (CqN W1 wr D ⟨tn, tu, tt, tb⟩ ⟨d.ns.take k, d.us, d.ts, d.raw⟩) := HGn.out
      clear HGn
      by_cases hlt : k < n1
      · have hlt' : (k : Int) < (n1 : Int) := by omega
        have hki : k < d.ns.length := by rw [HLN.out]; exact hlt
        obtain ⟨b1, o1, ha, hbl1, y, hy, hyr⟩ := (HS1.out.2.2.1.h1.below HG.out.bel).at k hki
        simp only at ha
        subst ha
        have KCP : Hid (Calls Tryz.prog 64 #[.slice y.a y.n y.c] wr.drew (CopyPost d.ns[k] 9223372036854775807 wr.drew)) := pcopy_eq y.a y.c y.n d.ns[k] 9223372036854775807 wr.drew (hyr.rd.below (Below.refl _ _).drew) hyr.len hyr.z63 (by have := HNN.out _ (List.getElem_mem hki); have := hyr.len; omega)
        have hb1s : W1.heap.size ≤ wr.heap.size := HG.out.bel.size
        have KC2 : Hid (Calls Tryz.prog 64 #[.slice y.a y.n y.c] wr.drew fun e w' => ∃ s5 : Sl, e = .returned (.slice s5.a s5.n s5.c) ∧ Hid (Owx1 W1.heap.size w' s5 d.ns[k] ∧ Below wr.drew.heap.size wr.drew w')) := by
          refine Calls.mono KCP.out ?_
          rintro e w' ⟨v, ys, rfl, H⟩
          obtain ⟨q1, q2, q3⟩ := H.out
          obtain ⟨ao, rfl, _⟩ := q1.shape
          exact ⟨⟨ao, _, _⟩, rfl, ⟨ys, q1.mono hb1s, q2⟩, q3⟩
        clear KCP
        have HTK : Hid (d.ns.take (k + 1) = d.ns.take k ++ [d.ns[k]]) := List.take_succ_eq_append_getElem hki
        have HKL : Hid ((d.ns.take k).length ≤ 5860000000000) := by show _ ≤ _; rw [List.length_take]; omega
        clear hyr
        generalize d.ns[k] = nm at *
        generalize d.ns.take k = nk at *
        have c0 : wr.cell? ⟨D, 0, none⟩ = some (.slice tn.a tn.n tn.c) := HG.out.blk.box.1
        have z0 := HG.out.blk.fz 0
        have hDl := HG.out.blk.lt
        go_wp2_with fail
        go_region_law (first
          | (refine sq_n1 rfl _ _ rfl W1.heap.size tn nk rfl (HG5.out.go (new_below _ _)).own.1 ⟨W5.heap.size, 0, none⟩ rfl s5 nm (one_n W5 s5) (H5.out.1.stays (new_below _ _)) HKL.out (HG5.out.go (new_below _ _)).bel.size ?_; intro t7 W7 H7 HX7; have HD7 : Hid (DBlk W7 D ⟨tn, tu, tt, tb⟩) := (HG5.out.go (new_below _ _)).blk.offTy HX7.out; have f0 : W7.cell? ⟨D, 0, none⟩ = some (.slice tn.a tn.n tn.c) := HD7.out.box.1; have fz0 := HD7.out.fz 0; have fDl := HD7.out.lt)
          | (go_simp; go_at_call 64; refine KC2.out.mono ?_; rintro e W5 ⟨s5, rfl, H5⟩; have HG5 : Hid (CqN W1 W5 D ⟨tn, tu, tt, tb⟩ ⟨nk, d.us, d.ts, d.raw⟩) := (HG.out.go (Below.refl _ _).drew).go H5.out.2; have e0 : W5.cell? ⟨D, 0, none⟩ = some (.slice tn.a tn.n tn.c) := HG5.out.blk.box.1; have ez := HG5.out.blk.fz 0; have eDl := HG5.out.blk.lt))
        all_goals
          have HG8 : Hid (CqN W1 (W7.setCell ⟨D, 0, none⟩ (.slice t7.a t7.n t7.c)) D ⟨t7, tu, tt, tb⟩ ⟨nk ++ [nm], d.us, d.ts, d.raw⟩) := (HG5.out.go (new_below _ _)).step H7.out HX7.out
          rw [← HTK.out] at HG8
          go_wp2_with fail
          exact ⟨⟨k + 1, by omega, by go_num, ⟨t7, HG8.out⟩⟩, by simp [intOf]; omega⟩
      · have hge : ¬ (k : Int) < (n1 : Int) := by omega
        have hkn : k = n1 := by omega
        have HGE : Hid (CqN W1 wr D ⟨tn, tu, tt, tb⟩ d) := by
          have := HG.out
          rw [List.take_of_length_le (by rw [HLN.out]; omega)] at this
          exact this
        clear HG
        have d0 : wr.cell? ⟨D, 0, none⟩ = some (.slice tn.a tn.n tn.c) := HGE.out.blk.box.1
        have d1 : wr.cell? ⟨D, 1, none⟩ = some (.slice tu.a tu.n tu.c) := HGE.out.blk.box.2.1
        have d2 : wr.cell? ⟨D, 2, none⟩ = some (.slice tt.a tt.n tt.c) := HGE.out.blk.box.2.2.1
        have d3 : wr.cell? ⟨D, 3, none⟩ = some (.slice tb.a tb.n tb.c) := HGE.out.blk.box.2.2.2.1
        have HRB : Hid (DBlk wr (b + 1) nilDA) := HS1.out.2.1.same (HGE.out.bel.block _ HS1.out.2.1.lt)
        have r0 : wr.cell? ⟨b + 1, 0, none⟩ = some (.slice none 0 0) := HRB.out.box.1
        have r1 : wr.cell? ⟨b + 1, 1, none⟩ = some (.slice none 0 0) := HRB.out.box.2.1
        have r2 : wr.cell? ⟨b + 1, 2, none⟩ = some (.slice none 0 0) := HRB.out.box.2.2.1
        have r3 : wr.cell? ⟨b + 1, 3, none⟩ = some (.slice none 0 0) := HRB.out.box.2.2.2.1
        have z0 := HRB.out.fz 0
        have z1 := HRB.out.fz 1
        have z2 := HRB.out.fz 2
        have z3 := HRB.out.fz 3
        have hbl := HRB.out.lt
        have hDl := HGE.out.blk.lt
        go_wp2_with fail
        have hW2 : W1.heap.size = b + 2 := HS1.out.2.2.2.2
        have HBW : Below w.heap.size w wr := by
          have h1 := HS1.out.2.2.2.1
          have h2 := Hb.out
          rw [h2] at h1
          exact h1.trans (HGE.out.bel.mono h1.size)
        have HX := ret4 HRB.out HBW (by have := Hb.out; omega) ⟨tn, tu, tt, tb⟩
        have HY : DOwx w.heap.size (set4 wr (b + 1) ⟨tn, tu, tt, tb⟩) ⟨tn, tu, tt, tb⟩ d := HGE.out.own.ret4 (by omega) (by have := Hb.out; omega)
        have k0 := HX.1.box.1
        have k1' := HX.1.box.2.1
        have k2' := HX.1.box.2.2.1
        have k3' := HX.1.box.2.2.2.1
        simp only [set4] at k0 k1' k2' k3'
        refine bodyPost_ret (v := .agg #[.slice tn.a tn.n tn.c, .slice tu.a tu.n tu.c, .slice tt.a tt.n tt.c, .slice tb.a tb.n tb.c]) ?_ rfl ⟨⟨tn, tu, tt, tb⟩, rfl, HY, HX.2⟩
        simp [results, Tryz.results66, go_sem, k0, k1', k2', k3']
end Go.Proofs.YtkjnbgekaifdfaaGreat
namespace Go.Proofs.YtkjnbgekaifdfaaGreat
open Go.ChangeShapes Go.WideShapes Go.ChangeAt Go.RowKit
set_option linter.unusedVariables false
set_option linter.unusedSimpArgs false
theorem ownsRow_stays {B e k n : Nat} {v : Value} {xs : List Value} {w w' : World} (h : w.ownsRow B e k v n xs) (hb : Below w.heap.size w w') : w'.ownsRow B e k v n xs :=
  h.kept (row := none) ⟨hb.os, hb.tape, hb.output, hb.size, fun j hj _ => hb.block j hj⟩ (by cases v.ownBlock with | none => exact .inl rfl | some j => exact .inr (by simp))
/-- A record. -/
structure Rec where
  ow : List ByteArray
  t : Nat
  cl : Nat
  tt : Nat
  d : Dat
/-- Where a record's lists are. -/
structure RA where
  o : Sl
  d : DA
def recCells (x : RA) (r : Rec) : List Value := [.slice x.o.a x.o.n x.o.c, .int .u16 r.t, .int .u16 r.cl, .int .u32 r.tt, .slice x.d.p1.a x.d.p1.n x.d.p1.c, .slice x.d.p2.a x.d.p2.n x.d.p2.c, .slice x.d.p3.a x.d.p3.n x.d.p3.c, .slice x.d.p4.a x.d.p4.n x.d.p4.c]
def cellsR (ps : List (RA × Rec)) : List Value := ps.flatMap fun p => recCells p.1 p.2
theorem cellsR_at (ps : List (RA × Rec)) (k : Nat) (h : k < ps.length) (j : Nat) (hj : j < 8) : (cellsR ps)[k * 8 + j]? = (recCells ps[k].1 ps[k].2)[j]? := by
  induction ps generalizing k with
  | nil => simp at h
  | cons p ws ih =>
    have hc : cellsR (p :: ws) = recCells p.1 p.2 ++ cellsR ws := by simp [cellsR]
    have h8 : (recCells p.1 p.2).length = 8 := rfl
    rw [hc]
    cases k with
    | zero => rw [List.getElem?_append_left (by rw [h8]; omega)]; simp
    | succ k =>
      have := ih k (by simpa using h)
      rw [List.getElem?_append_right (by rw [h8]; omega), h8, show (k + 1) * 8 + j - 8 = k * 8 + j by omega, this]
      simp
theorem cellsR_app (a b : List (RA × Rec)) : cellsR (a ++ b) = cellsR a ++ cellsR b := by simp [cellsR]
def RRd (w : World) (x : RA) (r : Rec) : Prop := TRd w x.o r.ow ∧ DRd w x.d r.d
theorem RRd.below {w w' : World} {x : RA} {r : Rec} (h : RRd w x r) (hb : Below w.heap.size w w') : RRd w' x r := ⟨h.1.below hb, h.2.below hb⟩
def ROwx (B : Nat) (w : World) (x : RA) (r : Rec) : Prop := Owx1 B w x.o r.ow ∧ DOwx B w x.d r.d
/-- A list of records that can be read: eight cells each. -/
def RdR (w : World) (a : Option Addr) (rs : List Rec) : Prop :=
  rs = [] ∨ ∃ b o, a = some ⟨b, o, none⟩ ∧ b < w.heap.size ∧ ∀ i (h : i < rs.length), ∃ x : RA, (∀ j (hj : j < 8), w.cell? ⟨b, o + i * 8 + j, none⟩ = (recCells x rs[i])[j]?) ∧ RRd w x rs[i]
theorem RdR.below {w w' : World} {a : Option Addr} {rs : List Rec} (h : RdR w a rs) (hb : Below w.heap.size w w') : RdR w' a rs := by
  rcases h with h | ⟨b, o, h1, h2, h3⟩
  · exact .inl h
  · refine .inr ⟨b, o, h1, Nat.lt_of_lt_of_le h2 hb.size, fun i hi => ?_⟩
    obtain ⟨x, e1, e5⟩ := h3 i hi
    exact ⟨x, fun j hj => (hb.cell (p := ⟨b, o + i * 8 + j, none⟩) h2).trans (e1 j hj), e5.below hb⟩
theorem RdR.at {w : World} {a : Option Addr} {rs : List Rec} (h : RdR w a rs) (i : Nat) (hi : i < rs.length) : ∃ b o, a = some ⟨b, o, none⟩ ∧ b < w.heap.size ∧ ∃ x : RA, (∀ j (hj : j < 8), w.cell? ⟨b, o + i * 8 + j, none⟩ = (recCells x rs[i])[j]?) ∧ RRd w x rs[i] := by
  rcases h with h | ⟨b, o, h1, h2, h3⟩
  · subst h; simp at hi
  · exact ⟨b, o, h1, h2, h3 i hi⟩
/-- A record that can be read as long as no other block than one is written. -/
def RfR (B : Nat) (w : World) (g : Option Nat) (x : RA) (r : Rec) : Prop :=
  ∀ w' : World, w.heap.size ≤ w'.heap.size → (∀ j, j < w.heap.size → B ≤ j → some j ≠ g → w'.heap[j]? = w.heap[j]?) → RRd w' x r
/-- A list of records of one's own. -/
def OwR (B : Nat) (w : World) (v : Value) (rs : List Rec) : Prop :=
  ∃ ps : List (RA × Rec), ps.map (·.2) = rs ∧ w.ownsRow B 62 8 v ps.length (cellsR ps) ∧ ∀ p ∈ ps, RfR B w v.ownBlock p.1 p.2
end Go.Proofs.YtkjnbgekaifdfaaGreat
namespace Go.Proofs.YtkjnbgekaifdfaaGreat
open Go.ChangeShapes Go.WideShapes Go.ChangeAt Go.RowKit
set_option linter.unusedVariables false
set_option linter.unusedSimpArgs false
/-- A question's name, type, class. -/
structure Qn where
  nm : List ByteArray
  ty : Nat
  cl : Nat
/-- Where a question lies. -/
structure QA where
  s : Sl
  ty : Nat
  cl : Nat
structure QOk (w : World) (x : QA) (q : Qn) : Prop where
  rd : TRd w x.s q.nm
  ty : x.ty = q.ty
  cl : x.cl = q.cl
  bt : q.ty < 65536
  bc : q.cl < 65536
theorem QOk.below {w w' : World} {x : QA} {q : Qn} (h : QOk w x q) (hb : Below w.heap.size w w') : QOk w' x q := ⟨h.rd.below hb, h.ty, h.cl, h.bt, h.bc⟩
end Go.Proofs.YtkjnbgekaifdfaaGreat
namespace Go.Proofs.YtkjnbgekaifdfaaGreat
open Go.ChangeShapes Go.WideShapes Go.ChangeAt Go.RowKit
set_option linter.unusedVariables false
set_option linter.unusedSimpArgs false
/-- What a writer keeps. -/
abbrev PLs := List (ByteArray × Nat)
/-- A piece: by what is kept and how many bytes stand ahead, its bytes and what is kept behind. -/
abbrev Pc := PLs → Nat → List Int × PLs
def pby (zs : List Int) : Pc := fun pl _ => (zs, pl)
def pnm (ss : List ByteArray) (back : Bool) : Pc := fun pl n => (qshort (if back then pl else []) ss, qkeep pl n (qown (if back then pl else []) ss) ss)
def psq (f g : Pc) : Pc := fun pl n => ((f pl n).1 ++ (g (f pl n).2 (n + (f pl n).1.length)).1, (g (f pl n).2 (n + (f pl n).1.length)).2)
def pls : List Pc → Pc
  | [] => pby []
  | f :: r => psq f (pls r)
abbrev WSt := Option (List Int × PLs)
def prun (f : Pc) (s : WSt) : WSt := s.bind fun s => if 65535 < s.1.length + (f s.2 s.1.length).1.length then none else some (s.1 ++ (f s.2 s.1.length).1, (f s.2 s.1.length).2)
theorem prun_seq (f g : Pc) (s : WSt) : prun (psq f g) s = prun g (prun f s) := by
  cases s with
  | none => rfl
  | some s =>
    obtain ⟨tx, pl⟩ := s
    simp only [prun, Option.bind_some, psq, List.length_append]
    by_cases h1 : 65535 < tx.length + (f pl tx.length).1.length
    · rw [if_pos (by omega), if_pos h1]; rfl
    · rw [if_neg h1]
      simp only [Option.bind_some, List.length_append]
      by_cases h2 : 65535 < tx.length + (f pl tx.length).1.length + (g (f pl tx.length).2 (tx.length + (f pl tx.length).1.length)).1.length
      · rw [if_pos h2, if_pos (by omega)]
      · rw [if_neg h2, if_neg (by omega), List.append_assoc]
theorem psq_assoc (f g h : Pc) : psq (psq f g) h = psq f (psq g h) := by
  funext pl n
  simp only [psq, List.append_assoc, List.length_append, Nat.add_assoc]
theorem pls_app (a b : List Pc) : pls (a ++ b) = psq (pls a) (pls b) := by
  induction a with
  | nil => funext pl n; simp [pls, psq, pby]
  | cons f r ih => rw [List.cons_append, pls, ih, pls, psq_assoc]
/-- How far ahead of data's names, and how many names: where they may point back. -/
def ahd (t : Nat) : Nat := if t = 15 then 2 else if t = 33 then 6 else 0
def cnt (t : Nat) : Nat := if t = 2 ∨ t = 5 ∨ t = 12 ∨ t = 15 ∨ t = 33 then 1 else if t = 6 then 2 else 0
def sqt (t : Nat) : Bool := decide (t = 2 ∨ t = 5 ∨ t = 6 ∨ t = 12 ∨ t = 15)
def dns (d : Dat) : Nat := (d.ns.map nsz).sum
def pdat (t : Nat) (d : Dat) : Pc := psq (pby ((writeF t d).take (ahd t))) (psq (pls (d.ns.map fun n => pnm n (sqt t))) (pby ((writeF t d).drop (ahd t + dns d))))
/-- Data with how many bytes they have ahead of them. -/
def psz (f : Pc) : Pc := fun pl n => (numB (f pl (n + 2)).1.length 2 ++ (f pl (n + 2)).1, (f pl (n + 2)).2)
def prec (r : Rec) : Pc := psq (pnm r.ow true) (psq (pby (numB r.t 2)) (psq (pby (numB r.cl 2)) (psq (pby (numB r.tt 4)) (psz (pdat r.t r.d)))))
def pqn (q : Qn) : Pc := psq (pnm q.nm true) (psq (pby (numB q.ty 2)) (pby (numB q.cl 2)))
/-- Reading. -/
def g16 (zs : List Int) (p : Nat) : Option (Nat × Nat) := if p + 2 ≤ zs.length then some (gNum zs p 2, p + 2) else none
def g32 (zs : List Int) (p : Nat) : Option (Nat × Nat) := if p + 4 ≤ zs.length then some (gNum zs p 4, p + 4) else none
def gnm (zs : List Int) (p : Nat) : Option (List ByteArray × Nat) := qgo zs true p p none []
def gmany {α : Type} (f : Nat → Option (α × Nat)) : Nat → Nat → Option (List α × Nat)
  | 0, p => some ([], p)
  | k + 1, p => (f p).bind fun x => (gmany f k x.2).map fun y => (x.1 :: y.1, y.2)
def gpl (t : Nat) (zs : List Int) (p e : Nat) : Option (List Int) :=
  if sqt t then
    if p + ahd t ≤ e then (gmany (gnm zs) (cnt t) (p + ahd t)).bind fun x => if x.2 ≤ e then some ((zs.drop p).take (ahd t) ++ (x.1.flatMap nmB ++ (zs.drop x.2).take (e - x.2))) else none
    else none
  else some ((zs.drop p).take (e - p))
def gdr (t : Nat) (b : List Int) : Option Dat := if mayT t = true ∧ b.length ≤ 65535 then dreadF t b else none
def gdat (t size : Nat) (zs : List Int) (p : Nat) : Option (Dat × Nat) :=
  if p + size ≤ zs.length then (gpl t zs p (p + size)).bind fun b => (gdr t b).map fun d => (d, p + size) else none
def grec (zs : List Int) (p : Nat) : Option (Rec × Nat) :=
  (gnm zs p).bind fun o => (g16 zs o.2).bind fun t => (g16 zs t.2).bind fun c => (g32 zs c.2).bind fun l => (g16 zs l.2).bind fun s => (gdat t.1 s.1 zs s.2).map fun d => (⟨o.1, t.1, c.1, l.1, d.1⟩, d.2)
def gqn (zs : List Int) (p : Nat) : Option (Qn × Nat) :=
  (gnm zs p).bind fun o => (g16 zs o.2).bind fun t => (g16 zs t.2).map fun c => (⟨o.1, t.1, c.1⟩, c.2)
/-- What is written as a piece is read again. -/
def Bak {α : Type} (f : Pc) (g : List Int → Nat → Option (α × Nat)) (x : α) : Prop :=
  ∀ (tx : List Int) (pl : PLs) (R : List Int), QInv tx pl → tx.length + (f pl tx.length).1.length ≤ 65535 →
    g (tx ++ ((f pl tx.length).1 ++ R)) tx.length = some (x, tx.length + (f pl tx.length).1.length)
/-- What is kept stands. -/
def Kps (f : Pc) : Prop := ∀ (tx : List Int) (pl : PLs), QInv tx pl → QInv (tx ++ (f pl tx.length).1) (f pl tx.length).2
/-- What is kept grows no faster than the bytes. -/
def Grw (f : Pc) : Prop := ∀ (pl : PLs) (n : Nat), (f pl n).2.length ≤ pl.length + (f pl n).1.length
theorem QInv.nil0 (tx : List Int) : QInv tx [] := fun k p h => by simp at h
theorem kps_by (zs : List Int) : Kps (pby zs) := fun tx pl h => h.more
theorem kps_seq {f g : Pc} (hf : Kps f) (hg : Kps g) : Kps (psq f g) := by
  intro tx pl h
  have h1 := hf tx pl h
  have h2 := hg _ _ h1
  simp only [List.length_append] at h2
  simp only [psq, ← List.append_assoc]
  exact h2
theorem kps_ls : ∀ l : List Pc, (∀ f ∈ l, Kps f) → Kps (pls l)
  | [], _ => kps_by []
  | f :: r, h => kps_seq (h f (by simp)) (kps_ls r fun g hg => h g (List.mem_cons_of_mem _ hg))
theorem own_short (pl : PLs) : ∀ t : List ByteArray, qown pl t ≤ (qshort pl t).length
  | [] => by simp [qown, qshort]
  | s :: t => by
    have ih := own_short pl t
    unfold qown qshort
    split
    · simp
    · simp; omega
theorem grw_nm (ss : List ByteArray) (back : Bool) : Grw (pnm ss back) := by
  intro pl n
  have h1 := keep_len pl n (qown (if back then pl else []) ss) ss
  have h2 := own_short (if back then pl else []) ss
  simp only [pnm]
  omega
theorem kps_nm (ss : List ByteArray) (back : Bool) (hk : nck ss = 0) : Kps (pnm ss back) := by
  intro tx pl hI
  have hI0 : QInv tx (if back then pl else []) := by cases back with | true => exact hI | false => exact QInv.nil0 tx
  have := keep_inv (if back then pl else []) [] ss tx pl (qown (if back then pl else []) ss) (Nat.le_refl _) hI0 (labs_of hk) (nck_small hk).1 hI.more (fun k p h => Nat.le_of_lt (hI0 k p h).1)
  simpa [pnm] using this
theorem bak_nm (ss : List ByteArray) (back : Bool) (hk : nck ss = 0) : Bak (pnm ss back) gnm ss := by
  intro tx pl R hI _
  have hI0 : QInv tx (if back then pl else []) := by cases back with | true => exact hI | false => exact QInv.nil0 tx
  have h := short_stands (if back then pl else []) ss tx R tx.length hI0 (labs_of hk) (fun k p h => (hI0 k p h).1)
  have := h.read none [] (by simpa using hk)
  simpa [gnm, pnm] using this
theorem bak_16 (n : Nat) (h : n ≤ 65535) : Bak (pby (numB n 2)) g16 n := by
  intro tx pl R hI _
  have hl := numB_len n 2 (by omega)
  show g16 (tx ++ (numB n 2 ++ R)) tx.length = some (n, tx.length + (numB n 2).length)
  unfold g16
  rw [if_pos (by simp [hl]), gNum_at tx R n 2 tx.length (by omega) rfl, hl]
theorem bak_32 (n : Nat) (h : n ≤ 4294967295) : Bak (pby (numB n 4)) g32 n := by
  intro tx pl R hI _
  have hl := numB_len n 4 (by omega)
  show g32 (tx ++ (numB n 4 ++ R)) tx.length = some (n, tx.length + (numB n 4).length)
  unfold g32
  rw [if_pos (by simp [hl]), gNum_at tx R n 4 tx.length (by omega) rfl, hl]
theorem kps_sz {f : Pc} (h : Kps f) : Kps (psz f) := by
  intro tx pl hI
  have h1 := h (tx ++ numB (f pl (tx.length + 2)).1.length 2) pl hI.more
  have hl : (numB (f pl (tx.length + 2)).1.length 2).length = 2 := numB_len _ _ (by omega)
  simp only [List.length_append, hl] at h1
  simp only [psz, ← List.append_assoc]
  exact h1
theorem kps_dat {t : Nat} {d : Dat} (h : checkF t d = 0) : Kps (pdat t d) := by
  refine kps_seq (kps_by _) (kps_seq (kps_ls _ ?_) (kps_by _))
  intro f hf
  obtain ⟨n, hn, rfl⟩ := List.mem_map.1 hf
  exact kps_nm n _ ((check_parts h).2.2.1 n hn)
theorem kps_rec {r : Rec} (ho : nck r.ow = 0) (h : checkF r.t r.d = 0) : Kps (prec r) :=
  kps_seq (kps_nm _ _ ho) (kps_seq (kps_by _) (kps_seq (kps_by _) (kps_seq (kps_by _) (kps_sz (kps_dat h)))))
theorem kps_qn {q : Qn} (ho : nck q.nm = 0) : Kps (pqn q) := kps_seq (kps_nm _ _ ho) (kps_seq (kps_by _) (kps_by _))
/-- Two pieces, read one behind the other. -/
theorem bak_bind {α β : Type} {f g : Pc} {r : List Int → Nat → Option (α × Nat)} {k : α → List Int → Nat → Option (β × Nat)} {x : α} {y : β} (hf : Bak f r x) (hk : Kps f) (hg : Bak g (k x) y) : Bak (psq f g) (fun zs p => (r zs p).bind fun a => k a.1 zs a.2) y := by
  intro tx pl R hI hl
  simp only [psq, List.length_append] at hl ⊢
  have h1 := hf tx pl ((g (f pl tx.length).2 (tx.length + (f pl tx.length).1.length)).1 ++ R) hI (by omega)
  have h2 := hg (tx ++ (f pl tx.length).1) (f pl tx.length).2 R (hk tx pl hI) (by simp only [List.length_append]; omega)
  simp only [List.length_append] at h2
  simp only [List.append_assoc] at h1 h2 ⊢
  rw [h1]
  simp only [Option.bind_some]
  rw [h2, Nat.add_assoc]
theorem bak_map {α β : Type} {f : Pc} {r : List Int → Nat → Option (α × Nat)} {x : α} (F : α → β) (hf : Bak f r x) : Bak f (fun zs p => (r zs p).map fun a => (F a.1, a.2)) (F x) := by
  intro tx pl R hI hl
  simp only [hf tx pl R hI hl, Option.map_some]
theorem bak_many {α : Type} {r : List Int → Nat → Option (α × Nat)} : ∀ (l : List (Pc × α)), (∀ x ∈ l, Bak x.1 r x.2 ∧ Kps x.1) → Bak (pls (l.map (·.1))) (fun zs => gmany (r zs) l.length) (l.map (·.2))
  | [], _ => by intro tx pl R hI hl; simp [pls, pby, gmany]
  | x :: l, h => by
    have h0 := h x (by simp)
    have ih := bak_many l fun y hy => h y (List.mem_cons_of_mem _ hy)
    exact bak_bind (k := fun a zs p => (gmany (r zs) l.length p).map fun y => (a :: y.1, y.2)) h0.1 h0.2 (bak_map (fun y => x.2 :: y) ih)
end Go.Proofs.YtkjnbgekaifdfaaGreat
namespace Go.Proofs.YtkjnbgekaifdfaaGreat
open Go.ChangeShapes Go.WideShapes Go.ChangeAt Go.RowKit
set_option linter.unusedVariables false
set_option linter.unusedSimpArgs false
theorem nck_len {ss : List ByteArray} (h : nck ss = 0) : ss.length ≤ 254 := by
  have := nck_small h; have := nsz_len ss; omega
theorem newq_below (w : World) (o : Obj) : Below w.heap.size w (w.alloc o) := (Below.refl _ _).alloc (Nat.le_refl _) _
theorem cell_below {w w' : World} {b : Nat} {o : Nat} {v : Value} (h : Below w.heap.size w w') (hb : b < w.heap.size) (hc : w.cell? ⟨b, o, none⟩ = some v) : w'.cell? ⟨b, o, none⟩ = some v := by
  have := h.block b hb
  simpa [World.cell?, this] using hc
end Go.Proofs.YtkjnbgekaifdfaaGreat
namespace Go.Proofs.YtkjnbgekaifdfaaGreat
open Go.ChangeShapes Go.WideShapes Go.ChangeAt Go.RowKit Go.Maps
set_option linter.unusedVariables false
set_option linter.unusedSimpArgs false
theorem law9 : Keyed Tryz.prog 9 := string_keyed Tryz.underlying9
theorem zero3 (w : World) : (zeroValue 3).run Tryz.prog w = .ok (.int .i64 0) w := by kernel_rfl
theorem str_inj {a b : ByteArray} (h : (Lit.string a.data.toList) = Lit.string b.data.toList) : a = b := by
  injection h with h
  cases a with | mk x => cases b with | mk y => simp at h; rw [h]
/-- The map of places, at block b. -/
def PlM (w : World) (b : Nat) (pl : List (ByteArray × Nat)) : Prop := ∃ M : DataW Unit, w.ownsMap Tryz.prog 9 (plainElem Tryz.prog 3) b pl.length M ∧
  ∀ s : ByteArray, (qfind pl s = none → has M (.string s.data.toList) = false) ∧ (∀ p, qfind pl s = some p → has M (.string s.data.toList) = true ∧ M.atKey (.string s.data.toList) (.lit (.int .i64 0)) = .lit (.int .i64 (p : Int)))
theorem PlM.same {w w' : World} {b : Nat} {pl : List (ByteArray × Nat)} (h : PlM w b pl) (hb : w'.heap[b]? = w.heap[b]?) : PlM w' b pl := by
  obtain ⟨M, h1, h2⟩ := h
  refine ⟨M, ?_, h2⟩
  obtain ⟨es, clock, h3, h4⟩ := h1
  exact ⟨es, clock, hb.trans h3, h4⟩
theorem PlM.isMap {w : World} {b : Nat} {pl : List (ByteArray × Nat)} (h : PlM w b pl) : ∃ es clock, w.heap[b]? = some (.map es clock) := by
  obtain ⟨M, ⟨es, clock, h3, _⟩, _⟩ := h
  exact ⟨es, clock, h3⟩
theorem PlM.made (w : World) : PlM (w.alloc (.map #[] 0)) w.heap.size [] := ⟨.map [], World.ownsMap_made _ _ _ _, fun s => ⟨fun _ => by simp [has], fun p h => by simp [qfind] at h⟩⟩
theorem PlM.put {w' : World} {b : Nat} {pl : List (ByteArray × Nat)} {M : DataW Unit} (s : ByteArray) (p : Nat) (hM : IsMap M) (hf : qfind pl s = none)
    (h2 : ∀ s : ByteArray, (qfind pl s = none → has M (.string s.data.toList) = false) ∧ (∀ p, qfind pl s = some p → has M (.string s.data.toList) = true ∧ M.atKey (.string s.data.toList) (.lit (.int .i64 0)) = .lit (.int .i64 (p : Int))))
    (h3 : w'.ownsMap Tryz.prog 9 (plainElem Tryz.prog 3) b (pl.length + 1) (M.put (.string s.data.toList) (.lit (.int .i64 (p : Int))))) : PlM w' b ((s, p) :: pl) := by
  refine ⟨_, h3, fun r => ?_⟩
  by_cases e : r = s
  · subst e
    have hk : WideAt.IsKeyLit (Lit.string r.data.toList) := by simp [WideAt.IsKeyLit]
    refine ⟨fun h => by simp [qfind] at h, fun q h => ?_⟩
    simp [qfind] at h
    subst h
    exact ⟨has_put_same hM hk _, atKey_put_same hM hk _ _⟩
  · have hne : (Lit.string r.data.toList) ≠ Lit.string s.data.toList := fun h => e (str_inj h)
    rw [has_put_other hne, atKey_put_other hne]
    have : qfind ((s, p) :: pl) r = qfind pl r := by simp [qfind, Ne.symm e]
    rw [this]
    exact h2 r
/-- What a call of a writer that was made from block B on leaves as it was: what lies below B, and all rows but those of bytes and of writers. -/
structure Fr (B : Nat) (w w' : World) : Prop where
  below : Below B w w'
  oth : ∀ (j : Nat) (cs : Array Value) (t : TypeId) (fr : Nat × Nat), w.heap[j]? = some (Obj.cells cs t fr) → t ≠ 5 → t ≠ 125 → w'.heap[j]? = w.heap[j]?
theorem Fr.refl (B : Nat) (w : World) : Fr B w w := ⟨Below.refl _ _, fun _ _ _ _ _ _ _ => rfl⟩
theorem Fr.trans {B : Nat} {a b c : World} (h : Fr B a b) (k : Fr B b c) : Fr B a c :=
  ⟨h.below.trans k.below, fun j cs t fr hj h5 h50 => by
    have e := h.oth j cs t fr hj h5 h50
    exact (k.oth j cs t fr (e.trans hj) h5 h50).trans e⟩
theorem Fr.of {B : Nat} {w w' : World} (h : Below w.heap.size w w') (hB : B ≤ w.heap.size) : Fr B w w' :=
  ⟨h.mono hB, fun j cs t fr hj _ _ => h.block j (Array.getElem?_eq_some_iff.1 hj).1⟩
/-- A writer at block g, made from block B on: its bytes, what it keeps. -/
structure Wr1 (B : Nat) (w : World) (g : Nat) (tx : List Int) (pl : List (ByteArray × Nat)) (v : Value) (ys : List Int) (mb : Nat) : Prop where
  box : w.heap[g]? = some (.cells #[.pointer (some ⟨g, 0, none⟩), v, .map (some mb)] 125)
  gB : B ≤ g
  mB : B ≤ mb
  own : Own B w v tx.length ys
  txt : ys.take tx.length = tx
  map : PlM w mb pl
def Wr (B : Nat) (w : World) (g : Nat) (tx : List Int) (pl : List (ByteArray × Nat)) : Prop := ∃ v ys mb, Wr1 B w g tx pl v ys mb
theorem Own.keepAt {B : Nat} {w w' : World} {v : Value} {n : Nat} {zs : List Int} (h : Own B w v n zs) (hb : ∀ g, v.ownBlock = some g → g < w.heap.size → w'.heap[g]? = w.heap[g]?) : Own B w' v n zs := by
  rcases h with h | ⟨g, h1, h2, h3, h4⟩
  · exact .inl h
  · exact .inr ⟨g, h1, h2, h3.same (hb g (by rw [h1]; rfl) h3.lt), h4⟩
theorem Wr1.below {B : Nat} {w w' : World} {g : Nat} {tx : List Int} {pl : List (ByteArray × Nat)} {v : Value} {ys : List Int} {mb : Nat} (h : Wr1 B w g tx pl v ys mb) (hb : Below w.heap.size w w') : Wr1 B w' g tx pl v ys mb :=
  ⟨(hb.block g (Array.getElem?_eq_some_iff.1 h.box).1).trans h.box, h.gB, h.mB, h.own.below hb, h.txt, h.map.same (hb.block mb (by obtain ⟨es, c, e⟩ := h.map.isMap; exact (Array.getElem?_eq_some_iff.1 e).1))⟩
theorem Wr.below {B : Nat} {w w' : World} {g : Nat} {tx : List Int} {pl : List (ByteArray × Nat)} (h : Wr B w g tx pl) (hb : Below w.heap.size w w') : Wr B w' g tx pl := by
  obtain ⟨v, ys, mb, h⟩ := h
  exact ⟨v, ys, mb, h.below hb⟩
theorem Blk.type {w : World} {g : Nat} {zs : List Int} (h : Blk w g zs) : ∃ cs, w.heap[g]? = some (.cells cs 5 (0, 0)) := ⟨_, h.1⟩
/-- A row of another element type is written (a list of the caller's): a writer stays. -/
theorem Wr.row {B : Nat} {w w' : World} {g : Nat} {tx : List Int} {pl : List (ByteArray × Nat)} (h : Wr B w g tx pl) {o : Option Nat} (hg : w.grownBy w' o) (ho : ∀ j, o = some j → ∃ (cs : Array Value) (t : TypeId) (fr : Nat × Nat), w.heap[j]? = some (Obj.cells cs t fr) ∧ t ≠ 5 ∧ t ≠ 125) : Wr B w' g tx pl := by
  obtain ⟨v, ys, mb, h⟩ := h
  refine ⟨v, ys, mb, ?_, h.gB, h.mB, ?_, h.txt, ?_⟩
  · refine (hg.block g (Array.getElem?_eq_some_iff.1 h.box).1 (fun e => ?_)).trans h.box
    obtain ⟨cs, t, fr, e1, e2, e3⟩ := ho g e.symm
    rw [h.box] at e1; cases e1; exact e3 rfl
  · refine h.own.keepAt (fun k hk hl => hg.block k hl (fun e => ?_))
    obtain ⟨cs, t, fr, e1, e2, e3⟩ := ho k e.symm
    rcases h.own with ⟨rfl, _⟩ | ⟨k', rfl, _, hbl, _⟩
    · cases hk
    · obtain rfl : k' = k := Option.some.inj hk
      obtain ⟨cs', e4⟩ := hbl.type
      rw [e4] at e1; cases e1; exact e2 rfl
  · obtain ⟨es, c, e4⟩ := h.map.isMap
    refine h.map.same (hg.block mb (Array.getElem?_eq_some_iff.1 e4).1 (fun e => ?_))
    obtain ⟨cs, t, fr, e1, _⟩ := ho mb e.symm
    rw [e4] at e1; cases e1
theorem eql_ptr_same (a : Addr) (w : World) : (binOp .eql 91 (.pointer (some a)) (.pointer (some a))).run Tryz.prog w = .ok (.bool true) w := by
  obtain ⟨j, hi⟩ : ∃ j, Tryz.prog.info? 125 = some j := Option.isSome_iff_exists.1 (by kernel_rfl)
  have h : ∀ d : Nat, (Op.equalIn (d + 1) 91 (.pointer (some a)) (.pointer (some a))).run Tryz.prog w = .ok true w := fun d => by
    simp [Op.equalIn, run_underlying Tryz.underlying91, sizeOf, typeInfo, hi, run_sameAddr_same]
  simp only [binOp]
  simp [Op.equal, Op.maxDepth, h 9999]
theorem neq_ptr_nil (a : Addr) (w : World) : (binOp .neq 91 (.pointer (some a)) (.pointer none)).run Tryz.prog w = .ok (.bool true) w := by
  have h : ∀ d : Nat, (Op.equalIn (d + 1) 91 (.pointer (some a)) (.pointer none)).run Tryz.prog w = .ok false w := fun d => by
    simp [Op.equalIn, run_underlying Tryz.underlying91]
  simp only [binOp]
  simp [Op.equal, Op.maxDepth, h 9999]
theorem box_cell {w : World} {g : Nat} {cs : Array Value} {t : TypeId} (h : w.heap[g]? = some (.cells cs t)) (k : Nat) (v : Value) (hk : cs[k]? = some v) : w.cell? ⟨g, k, none⟩ = some v := by
  simp [World.cell?, h, hk]
theorem box_frozen {w : World} {g : Nat} {cs : Array Value} {t : TypeId} (h : w.heap[g]? = some (.cells cs t)) (k : Nat) : w.frozen? ⟨g, k, none⟩ = false := by
  simp [World.frozen?, h]
theorem box_lt {w : World} {g : Nat} {o : Obj} (h : w.heap[g]? = some o) : g < w.heap.size := (Array.getElem?_eq_some_iff.1 h).1
theorem box_set {w : World} {g : Nat} {cs : Array Value} {t : TypeId} (h : w.heap[g]? = some (.cells cs t)) (k : Nat) (v : Value) : (w.setCell ⟨g, k, none⟩ v).heap[g]? = some (.cells (cs.setIfInBounds k v) t) := heap_set h k v
set_option maxRecDepth 100000 in
theorem made_yes (g : Nat) (w : World) (h : w.cell? ⟨g, 0, none⟩ = some (.pointer (some ⟨g, 0, none⟩))) (hg : g < w.heap.size) :
    Calls Tryz.prog 86 #[.pointer (some ⟨g, 0, none⟩)] w fun e w' => e = .returned (.bool true) ∧ w' = w := by
  have h1 := eql_ptr_same ⟨g, 0, none⟩
  have h2 := neq_ptr_nil ⟨g, 0, none⟩
  go_enter Tryz.func86, Tryz.ntmps86
  go_wp2
  go_ret
  exact ⟨rfl, rfl⟩
set_option maxRecDepth 100000 in
theorem len_any (B g : Nat) (tx : List Int) (pl : List (ByteArray × Nat)) (w : World) (h : Wr B w g tx pl) :
    Calls Tryz.prog 83 #[.pointer (some ⟨g, 0, none⟩)] w fun e w' => e = .returned (.int .i64 tx.length) ∧ w' = w := by
  obtain ⟨v, ys, mb, h⟩ := h
  have hg := box_lt h.box
  have c0 := box_cell h.box 0 _ rfl
  have c1 := box_cell h.box 1 _ rfl
  obtain ⟨ao, rfl, _⟩ := h.own.addr
  generalize tx.length = n at *
  have KM := Lib.hid (made_yes g w c0 hg)
  go_enter Tryz.func83, Tryz.ntmps83
  go_wp2_with fail
  refine KM.out.mono ?_
  rintro e w1 ⟨rfl, rfl⟩
  go_wp2
  go_ret
  exact ⟨rfl, rfl⟩
set_option maxRecDepth 100000 in
set_option maxHeartbeats 1000000 in
theorem all_any (B g : Nat) (tx : List Int) (pl : List (ByteArray × Nat)) (w : World) (h : Wr B w g tx pl) (ht : tx.length ≤ 100000) :
    Calls Tryz.prog 56 #[.pointer (some ⟨g, 0, none⟩)] w fun e w' => ∃ v ys, e = .returned v ∧ Hid (Own w.heap.size w' v tx.length ys ∧ ys.take tx.length = tx ∧ Below w.heap.size w w') := by
  obtain ⟨v, ys, mb, h⟩ := h
  have hg := box_lt h.box
  have c0 := box_cell h.box 0 _ rfl
  have c1 := box_cell h.box 1 _ rfl
  obtain ⟨ao, rfl, hA⟩ := h.own.addr
  have HR : Hid (Rd w ao tx) := by have := hA.rdTake tx.length; rw [h.txt] at this; exact this
  have HN : Hid (ao = none → tx.length = 0 ∧ ys.length = 0) := fun e => by have := hA.nil e; have := hA.le; omega
  obtain ⟨n, hn⟩ : ∃ n, tx.length = n := ⟨_, rfl⟩
  have KM := Lib.hid (made_yes g w c0 hg)
  have KC : Hid (Calls Tryz.prog 87 #[.slice ao n ys.length] w fun e w' => ∃ v ys, e = .returned v ∧ Hid (Own w.heap.size w' v n ys ∧ ys.take n = tx ∧ Below w.heap.size w w')) := by
    cases ao with
    | none =>
      obtain ⟨e1, e2⟩ := HN.out rfl
      rw [e2, ← hn, e1]
      refine (clone_none w).mono ?_
      rintro e w' ⟨rfl, rfl⟩
      exact ⟨_, [], rfl, .inl ⟨rfl, rfl, rfl⟩, (List.eq_nil_of_length_eq_zero e1).symm ▸ rfl, Below.refl _ _⟩
    | some x =>
      rw [← hn]
      refine (clone_any x _ tx w HR.out (by omega)).mono ?_
      rintro e w' ⟨v, zs, rfl, h1, h2, h3⟩
      exact ⟨v, zs, rfl, h1, h2, h3⟩
  rw [hn] at c1 ⊢
  generalize ys.length = C at *
  clear h hA HN HR
  go_enter Tryz.func56, Tryz.ntmps56
  go_wp2_with fail
  refine KM.out.mono ?_
  rintro e w1 ⟨rfl, rfl⟩
  go_wp2_with fail
  refine KC.out.mono ?_
  rintro e w2 ⟨v, zs, rfl, H2⟩
  go_wp2
  go_ret
  exact ⟨v, zs, rfl, H2⟩
end Go.Proofs.YtkjnbgekaifdfaaGreat
namespace Go.Proofs.YtkjnbgekaifdfaaGreat
open Go.ChangeShapes Go.WideShapes Go.ChangeAt Go.RowKit
set_option linter.unusedVariables false
set_option linter.unusedSimpArgs false
/-- A head's fields. -/
structure Hd where
  id : Nat
  rs : Bool
  op : Int
  aa : Bool
  tc : Bool
  rd : Bool
  ra : Bool
  ad : Bool
  cd : Bool
  rc : Int
/-- Where a message's lists are. -/
structure MA where
  q : Sl
  l1 : Sl
  l2 : Sl
  l3 : Sl
theorem namesin_any (t : Nat) (w : World) : Calls Tryz.prog 108 #[.int .u16 t] w fun e w' => e = .returned (.tuple #[.int .i64 (ahd t), .int .i64 (cnt t)]) ∧ w' = w := by
  have key : (t = 2 ∨ t = 5 ∨ t = 12) ∨ t = 6 ∨ t = 15 ∨ t = 33 ∨ (((t : Int) == 2) = false ∧ ((t : Int) == 5) = false ∧ ((t : Int) == 12) = false ∧ ((t : Int) == 6) = false ∧ ((t : Int) == 15) = false ∧ ((t : Int) == 33) = false ∧ ahd t = 0 ∧ cnt t = 0) := by
    by_cases h : t = 2 ∨ t = 5 ∨ t = 12 ∨ t = 6 ∨ t = 15 ∨ t = 33
    · omega
    · refine .inr (.inr (.inr (.inr ?_)))
      simp only [ahd, cnt, beq_eq_false_iff_ne]
      refine ⟨by omega, by omega, by omega, by omega, by omega, by omega, by rw [if_neg (by omega), if_neg (by omega)], by rw [if_neg (by omega), if_neg (by omega)]⟩
  rcases key with (rfl | rfl | rfl) | rfl | rfl | rfl | ⟨h1, h2, h3, h4, h5, h6, e1, e2⟩
  case inr.inr.inr.inr =>
    rw [e1, e2]
    clear e1 e2
    go_enter Tryz.func108, Tryz.ntmps108
    go_wp2
    go_ret2
    exact ⟨rfl, rfl⟩
  all_goals
    go_enter Tryz.func108, Tryz.ntmps108
    go_wp2
    go_ret2
    exact ⟨rfl, rfl⟩
theorem squeezed_any (t : Nat) (w : World) : Calls Tryz.prog 109 #[.int .u16 t] w fun e w' => e = .returned (.bool (sqt t)) ∧ w' = w := by
  have key : (t = 2 ∨ t = 5 ∨ t = 6 ∨ t = 12 ∨ t = 15) ∨ (((t : Int) == 2) = false ∧ ((t : Int) == 5) = false ∧ ((t : Int) == 6) = false ∧ ((t : Int) == 12) = false ∧ ((t : Int) == 15) = false ∧ sqt t = false) := by
    by_cases h : t = 2 ∨ t = 5 ∨ t = 6 ∨ t = 12 ∨ t = 15
    · exact .inl h
    · refine .inr ?_
      simp only [sqt, beq_eq_false_iff_ne, decide_eq_false_iff_not]
      omega
  rcases key with (rfl | rfl | rfl | rfl | rfl) | ⟨h1, h2, h3, h4, h5, e1⟩
  case inr =>
    rw [e1]
    clear e1
    go_enter Tryz.func109, Tryz.ntmps109
    go_wp2
    go_ret
    exact ⟨rfl, rfl⟩
  all_goals
    go_enter Tryz.func109, Tryz.ntmps109
    go_wp2
    go_ret
    exact ⟨rfl, rfl⟩
set_option maxRecDepth 100000 in
theorem sections_any (b : Nat) (w : World) : Calls Tryz.prog 43 #[.pointer (some ⟨b, 0, none⟩)] w fun e w' => e = .returned (.agg #[.pointer (some ⟨b, 11, none⟩), .pointer (some ⟨b, 12, none⟩), .pointer (some ⟨b, 13, none⟩)]) ∧ Hid (Below w.heap.size w w') := by
  go_enter Tryz.func43, Tryz.ntmps43
  go_wp2
  go_region
  go_wp2
  refine bodyPost_ret (v := .agg #[.pointer (some ⟨b, 11, none⟩), .pointer (some ⟨b, 12, none⟩), .pointer (some ⟨b, 13, none⟩)]) ?_ rfl ⟨rfl, ?_⟩
  · simp [results, Tryz.results43, go_sem]
  exact ((Below.refl _ _).alloc (Nat.le_refl _) _).drew
theorem ixS0 (b : Nat) (w : World) : (Instr.index 77 (.agg #[.pointer (some ⟨b, 11, none⟩), .pointer (some ⟨b, 12, none⟩), .pointer (some ⟨b, 13, none⟩)]) (.int .i64 0)).run Tryz.prog w = .ok (.pointer (some ⟨b, 11, none⟩)) w := by kernel_rfl
theorem ixS1 (b : Nat) (w : World) : (Instr.index 77 (.agg #[.pointer (some ⟨b, 11, none⟩), .pointer (some ⟨b, 12, none⟩), .pointer (some ⟨b, 13, none⟩)]) (.int .i64 1)).run Tryz.prog w = .ok (.pointer (some ⟨b, 12, none⟩)) w := by kernel_rfl
theorem ixS2 (b : Nat) (w : World) : (Instr.index 77 (.agg #[.pointer (some ⟨b, 11, none⟩), .pointer (some ⟨b, 12, none⟩), .pointer (some ⟨b, 13, none⟩)]) (.int .i64 2)).run Tryz.prog w = .ok (.pointer (some ⟨b, 13, none⟩)) w := by kernel_rfl
theorem ixS (b k : Nat) (hk : k < 3) (w : World) : (Instr.index 77 (.agg #[.pointer (some ⟨b, 11, none⟩), .pointer (some ⟨b, 12, none⟩), .pointer (some ⟨b, 13, none⟩)]) (.int .i64 (k : Int))).run Tryz.prog w = .ok (.pointer (some ⟨b, 11 + k, none⟩)) w := by
  have : k = 0 ∨ k = 1 ∨ k = 2 := by omega
  rcases this with rfl | rfl | rfl
  · exact ixS0 b w
  · exact ixS1 b w
  · exact ixS2 b w
/-- A message's box. -/
theorem mbox_new (H : Hd) (x : MA) (w : World) : (w.alloc (.cells #[.int .u16 H.id, .bool H.rs, .int .i64 H.op, .bool H.aa, .bool H.tc, .bool H.rd, .bool H.ra, .bool H.ad, .bool H.cd, .int .i64 H.rc, .slice x.q.a x.q.n x.q.c, .slice x.l1.a x.l1.n x.l1.c, .slice x.l2.a x.l2.n x.l2.c, .slice x.l3.a x.l3.n x.l3.c] 26)).heap[w.heap.size]? = some (.cells #[.int .u16 H.id, .bool H.rs, .int .i64 H.op, .bool H.aa, .bool H.tc, .bool H.rd, .bool H.ra, .bool H.ad, .bool H.cd, .int .i64 H.rc, .slice x.q.a x.q.n x.q.c, .slice x.l1.a x.l1.n x.l1.c, .slice x.l2.a x.l2.n x.l2.c, .slice x.l3.a x.l3.n x.l3.c] 26) := heap_alloc_new _ _
def nth3 (x : MA) (k : Nat) : Sl := if k = 0 then x.l1 else if k = 1 then x.l2 else x.l3
theorem mbox_list {H : Hd} {x : MA} {w : World} {b : Nat} (h : w.heap[b]? = some (.cells #[.int .u16 H.id, .bool H.rs, .int .i64 H.op, .bool H.aa, .bool H.tc, .bool H.rd, .bool H.ra, .bool H.ad, .bool H.cd, .int .i64 H.rc, .slice x.q.a x.q.n x.q.c, .slice x.l1.a x.l1.n x.l1.c, .slice x.l2.a x.l2.n x.l2.c, .slice x.l3.a x.l3.n x.l3.c] 26)) (k : Nat) (hk : k < 3) : w.cell? ⟨b, 11 + k, none⟩ = some (.slice (nth3 x k).a (nth3 x k).n (nth3 x k).c) := by
  have : k = 0 ∨ k = 1 ∨ k = 2 := by omega
  rcases this with rfl | rfl | rfl <;> simp [World.cell?, h, nth3]
def sum3 (x : MA) (k : Nat) : Nat := (if 0 < k then x.l1.n else 0) + (if 1 < k then x.l2.n else 0) + (if 2 < k then x.l3.n else 0)
theorem sum3_step (x : MA) (k : Nat) (hk : k < 3) : sum3 x (k + 1) = sum3 x k + (nth3 x k).n := by
  have : k = 0 ∨ k = 1 ∨ k = 2 := by omega
  rcases this with rfl | rfl | rfl <;> simp [sum3, nth3]
theorem sum3_le (x : MA) (k : Nat) : sum3 x k ≤ x.l1.n + x.l2.n + x.l3.n := by
  unfold sum3
  split <;> split <;> split <;> omega
set_option maxRecDepth 100000 in
set_option maxHeartbeats 1000000 in
theorem total_any (H : Hd) (x : MA) (w : World) (hs : x.l1.n + x.l2.n + x.l3.n ≤ 1000000000) : Calls Tryz.prog 30 #[.agg #[.int .u16 H.id, .bool H.rs, .int .i64 H.op, .bool H.aa, .bool H.tc, .bool H.rd, .bool H.ra, .bool H.ad, .bool H.cd, .int .i64 H.rc, .slice x.q.a x.q.n x.q.c, .slice x.l1.a x.l1.n x.l1.c, .slice x.l2.a x.l2.n x.l2.c, .slice x.l3.a x.l3.n x.l3.c]] w fun e w' => e = .returned (.int .i64 ((x.l1.n + x.l2.n + x.l3.n : Nat) : Int)) ∧ Hid (Below w.heap.size w w') := by
  have KS := Lib.hid (sections_any w.heap.size (w.alloc (.cells #[.int .u16 H.id, .bool H.rs, .int .i64 H.op, .bool H.aa, .bool H.tc, .bool H.rd, .bool H.ra, .bool H.ad, .bool H.cd, .int .i64 H.rc, .slice x.q.a x.q.n x.q.c, .slice x.l1.a x.l1.n x.l1.c, .slice x.l2.a x.l2.n x.l2.c, .slice x.l3.a x.l3.n x.l3.c] 26)))
  go_enter Tryz.func30, Tryz.ntmps30
  go_wp2_with fail
  refine KS.out.mono ?_
  rintro e w1 ⟨rfl, H1⟩
  have HB : Hid (w1.heap[w.heap.size]? = some (.cells #[.int .u16 H.id, .bool H.rs, .int .i64 H.op, .bool H.aa, .bool H.tc, .bool H.rd, .bool H.ra, .bool H.ad, .bool H.cd, .int .i64 H.rc, .slice x.q.a x.q.n x.q.c, .slice x.l1.a x.l1.n x.l1.c, .slice x.l2.a x.l2.n x.l2.c, .slice x.l3.a x.l3.n x.l3.c] 26)) := (H1.out.block _ (by simp)).trans (mbox_new H x w)
  have hlt : w.heap.size < w1.heap.size := box_lt HB.out
  have HB1 : Hid (Below w.heap.size w w1) := ((Below.refl _ w).alloc (Nat.le_refl _) _).trans (H1.out.mono (by simp))
  clear H1 KS
  go_wp2_with fail
  go_loopw [3, 7] (fun y z wr => ∃ k : Nat, k ≤ 3 ∧ y = .int .i64 (sum3 x k : Nat) ∧ z = .int .i64 k ∧ wr = w1) (fun _ z _ => 3 - (intOf z).toNat)
  case atStart => exact ⟨0, by omega, rfl, rfl, rfl⟩
  case round =>
    obtain ⟨k, hk, rfl, rfl, rfl⟩ := hrel
    by_cases hlt3 : k < 3
    · have h3 : (k : Int) < 3 := by omega
      have hix := ixS w.heap.size k hlt3
      have hc := mbox_list HB.out k hlt3
      have hst := sum3_step x k hlt3
      have hle := sum3_le x (k + 1)
      have HST : Hid (sum3 x (k + 1) = sum3 x k + (nth3 x k).n) := hst
      have hle2 : sum3 x k + (nth3 x k).n ≤ 1000000000 := by omega
      clear hst hle
      generalize nth3 x k = s at *
      generalize sum3 x k = S at *
      go_wp2
      exact ⟨⟨k + 1, by omega, by rw [HST.out]; go_num, by go_num, trivial⟩, by simp [intOf]; omega⟩
    · obtain rfl : k = 3 := by omega
      go_wp2
      go_ret
      exact ⟨by simp [sum3], HB1.out⟩
end Go.Proofs.YtkjnbgekaifdfaaGreat
namespace Go.Proofs.YtkjnbgekaifdfaaGreat
open Go.ChangeShapes Go.WideShapes Go.ChangeAt Go.RowKit
set_option linter.unusedVariables false
set_option linter.unusedSimpArgs false
theorem new_b (w : World) (zs : List Int) (n : Nat) (hn : zs.length = n) (hm : n ≤ 1000) (hb : ∀ z ∈ zs, 0 ≤ z ∧ z ≤ 255) : BRd (w.alloc (.cells (zs.map (Value.int .u8)).toArray 5)) ⟨some ⟨w.heap.size, 0, none⟩, n, n⟩ zs := by
  refine ⟨⟨?_, hb⟩, hn, ⟨Nat.le_refl _, by simp only; omega⟩, by simp⟩
  have hblk : Blk (w.alloc (.cells (zs.map (Value.int .u8)).toArray 5)) w.heap.size zs := ⟨heap_alloc_new _ _, hb⟩
  exact .inr ⟨w.heap.size, 0, rfl, hblk.lt, fun i hi => by rw [Nat.zero_add]; exact hblk.cell i hi⟩
end Go.Proofs.YtkjnbgekaifdfaaGreat
namespace Go.Proofs.YtkjnbgekaifdfaaGreat
open Go.ChangeShapes Go.WideShapes Go.ChangeAt Go.RowKit
set_option linter.unusedVariables false
set_option linter.unusedSimpArgs false
theorem wlen {t : Nat} {d : Dat} (hck : checkF t d = 0) : (writeF t d).length ≤ 65535 := by
  obtain ⟨hm, hf, hnk, hsz⟩ := check_parts hck
  have hwr := wrt_of hck
  obtain ⟨hq1, hq2, hq3, hq4, hq5, hq6⟩ := wr_eq t d hf
  rw [← hq6]
  have h1 := hwr.sz
  rw [hq1, ← hq4] at h1
  have h2 : (ptB (d.ts.length - (fs t).tl) d.ts).length = (tsB t d.ts).length := by
    have e1 := congrArg List.length hq6
    unfold writeF at e1
    by_cases h6 : t = 6
    · obtain ⟨_, e2, e3⟩ := hwr.soa h6
      rw [e2]; simp [ptB, tsB, nby]
    · rw [if_neg h6, hq1, hq4] at e1
      simp only [List.length_append] at e1
      omega
  simp only [List.length_append] at h1 ⊢
  omega
end Go.Proofs.YtkjnbgekaifdfaaGreat
namespace Go.Proofs.YtkjnbgekaifdfaaGreat
open Go.ChangeShapes Go.WideShapes Go.ChangeAt Go.RowKit
set_option linter.unusedVariables false
set_option linter.unusedSimpArgs false
theorem names_plain : ∀ (ns : List (List ByteArray)) (pl : PLs) (k : Nat), (pls (ns.map fun n => pnm n false) pl k).1 = ns.flatMap nmB
  | [], pl, k => rfl
  | n :: r, pl, k => by
    have ih := names_plain r
    simp only [List.map_cons, pls, psq, List.flatMap_cons, ih, pnm, nmB, Bool.false_eq_true, if_false, qshort_nil]
theorem flat_nmB_len : ∀ ns : List (List ByteArray), (ns.flatMap nmB).length = (ns.map nsz).sum
  | [] => rfl
  | n :: r => by simp only [List.flatMap_cons, List.length_append, nmB_len, flat_nmB_len r, List.map_cons, List.sum_cons]
theorem nums_len2 {us : List Nat} {wd : Nat} (h : wd = 1 ∨ wd = 2 ∨ wd = 4) : (us.flatMap fun n => numB n wd).length = us.length * wd := by
  induction us with
  | nil => simp
  | cons u r ih => simp only [List.flatMap_cons, List.length_append, numB_len u wd h, ih, List.length_cons, Nat.succ_mul]; omega
/-- Where data's names stand in their bytes. -/
theorem wr_split {t : Nat} {d : Dat} (h : checkF t d = 0) : (writeF t d).take (ahd t) ++ (d.ns.flatMap nmB ++ (writeF t d).drop (ahd t + dns d)) = writeF t d ∧ ahd t + dns d ≤ (writeF t d).length ∧ (sqt t = true → cnt t = d.ns.length) := by
  obtain ⟨_, hf, _, _⟩ := check_parts h
  have F := (fit_iff t d).1 hf
  have hN := flat_nmB_len d.ns
  have e0 : ∀ (A B C : List Int) (k m : Nat), A.length = k → B.length = m → (A ++ (B ++ C)).take k ++ (B ++ (A ++ (B ++ C)).drop (k + m)) = A ++ (B ++ C) ∧ k + m ≤ (A ++ (B ++ C)).length := by
    intro A B C k m hA hB
    subst hA hB
    refine ⟨?_, by simp⟩
    rw [List.take_left, ← List.append_assoc A B C, show A.length + B.length = (A ++ B).length by simp, List.drop_left, List.append_assoc]
  have key : ∃ A C, A.length = ahd t ∧ writeF t d = A ++ (d.ns.flatMap nmB ++ C) := by
    unfold writeF ahd
    have hc := shp_cases t
    by_cases h6 : t = 6
    · subst h6
      exact ⟨[], d.us.flatMap (fun n => numB n 4), rfl, by simp⟩
    · rw [if_neg h6]
      by_cases h15 : t = 15
      · subst h15
        have : d.us.length = 1 := F.us
        exact ⟨d.us.flatMap (fun n => numB n (shp 15).wd), tsB 15 d.ts ++ d.raw, by rw [nums_len2 (by decide), this]; decide, by simp⟩
      · by_cases h33 : t = 33
        · subst h33
          have : d.us.length = 3 := F.us
          exact ⟨d.us.flatMap (fun n => numB n (shp 33).wd), tsB 33 d.ts ++ d.raw, by rw [nums_len2 (by decide), this]; decide, by simp⟩
        · rw [if_neg h15, if_neg h33]
          by_cases hn : d.ns = []
          · exact ⟨[], d.us.flatMap (fun n => numB n (shp t).wd) ++ (tsB t d.ts ++ d.raw), rfl, by rw [hn]; simp⟩
          · have hl : d.ns.length ≠ 0 := fun e => hn (List.eq_nil_of_length_eq_zero e)
            rw [F.ns] at hl
            have hu : d.us.length = 0 := by
              rw [F.us]
              rcases hc with ⟨_, e⟩ | ⟨_, e⟩ | ⟨_, e⟩ | ⟨e, _⟩ | ⟨e, _⟩ | ⟨e, _⟩ | ⟨_, e⟩ | ⟨_, e⟩ | ⟨_, e⟩
              all_goals first | (rw [e]; done) | (rw [e] at hl; exact absurd rfl hl) | (exact absurd e (by assumption))
            have : d.us = [] := List.eq_nil_of_length_eq_zero hu
            exact ⟨[], tsB t d.ts ++ d.raw, rfl, by rw [this]; simp⟩
  obtain ⟨A, C, hA, hw⟩ := key
  obtain ⟨h1, h2⟩ := e0 A (d.ns.flatMap nmB) C (ahd t) (dns d) hA hN
  rw [hw]
  refine ⟨h1, h2, fun hs => ?_⟩
  rw [F.ns]
  unfold sqt at hs
  have := of_decide_eq_true hs
  rcases this with rfl | rfl | rfl | rfl | rfl <;> rfl
theorem bak_names (ns : List (List ByteArray)) (back : Bool) (h : ∀ n ∈ ns, nck n = 0) : Bak (pls (ns.map fun n => pnm n back)) (fun zs => gmany (gnm zs) ns.length) ns := by
  have := bak_many (r := gnm) (ns.map fun n => (pnm n back, n)) (by
    intro x hx
    obtain ⟨n, hn, rfl⟩ := List.mem_map.1 hx
    exact ⟨bak_nm n back (h n hn), kps_nm n back (h n hn)⟩)
  simpa [List.map_map, Function.comp_def] using this
theorem take_mid (A B C : List Int) (k m : Nat) (hA : A.length = k) (hB : B.length = m) : ((A ++ (B ++ C)).drop k).take m = B := by
  subst hA hB
  rw [List.drop_left, List.take_left]
theorem dat_bytes {t : Nat} {d : Dat} (h : checkF t d = 0) (hs : sqt t = false) (pl : PLs) (k : Nat) : (pdat t d pl k).1 = writeF t d := by
  simp only [pdat, psq, pby, hs]
  rw [names_plain]
  exact (wr_split h).1
/-- The plain bytes of data that were written. -/
theorem gpl_back {t : Nat} {d : Dat} (h : checkF t d = 0) (tx : List Int) (pl : PLs) (R : List Int) (hI : QInv tx pl) (hl : tx.length + (pdat t d pl tx.length).1.length ≤ 65535) :
    gpl t (tx ++ ((pdat t d pl tx.length).1 ++ R)) tx.length (tx.length + (pdat t d pl tx.length).1.length) = some (writeF t d) := by
  unfold gpl
  cases hs : sqt t with
  | false =>
    rw [if_neg (by simp), dat_bytes h hs, Nat.add_sub_cancel_left, List.drop_left, List.take_left]
  | true =>
    rw [if_pos rfl]
    obtain ⟨h1, h2, h3⟩ := wr_split h
    have hA : ((writeF t d).take (ahd t)).length = ahd t := by rw [List.length_take]; omega
    rw [h3 hs]
    generalize hAA : (writeF t d).take (ahd t) = A at *
    generalize hCC : (writeF t d).drop (ahd t + dns d) = C at *
    have hb := bak_names d.ns true (check_parts h).2.2.1 (tx ++ A) pl (C ++ R) hI.more
    have e : (pdat t d pl tx.length).1 = A ++ ((pls (d.ns.map fun n => pnm n true) pl (tx.length + A.length)).1 ++ C) := by
      simp only [pdat, psq, pby, hs, hAA, hCC]
    rw [e] at hl ⊢
    simp only [List.length_append] at hb hl ⊢
    generalize (pls (d.ns.map fun n => pnm n true) pl (tx.length + A.length)).1 = N at *
    have hb := hb (by omega)
    rw [hA] at hb hl ⊢
    rw [if_pos (by omega)]
    simp only [List.append_assoc] at hb ⊢
    rw [hb]
    simp only [Option.bind_some]
    rw [if_pos (by omega)]
    congr 1
    rw [take_mid tx A _ tx.length (ahd t) rfl hA]
    have e2 : tx ++ (A ++ (N ++ (C ++ R))) = (tx ++ A ++ N) ++ (C ++ R) := by simp
    rw [e2, show tx.length + (ahd t + (N.length + C.length)) - (tx.length + ahd t + N.length) = C.length by omega, take_mid (tx ++ A ++ N) C R _ C.length (by simp only [List.length_append, hA]) rfl]
    exact h1
theorem bak_dat {t : Nat} {d : Dat} (h : checkF t d = 0) : Bak (psz (pdat t d)) (fun zs p => (g16 zs p).bind fun s => gdat t s.1 zs s.2) d := by
  intro tx pl R hI hl
  simp only [psz, List.length_append] at hl ⊢
  generalize hD : pdat t d pl (tx.length + 2) = D at *
  have hn : (numB D.1.length 2).length = 2 := numB_len _ _ (by omega)
  have h16 := bak_16 D.1.length (by omega) tx pl (D.1 ++ R) hI (by simp only [pby]; omega)
  simp only [pby] at h16
  rw [List.append_assoc, h16]
  simp only [Option.bind_some]
  unfold gdat
  rw [if_pos (by simp only [List.length_append]; omega)]
  have hg := gpl_back h (tx ++ numB D.1.length 2) pl R hI.more
  simp only [List.length_append, hn, hD] at hg
  have hg := hg (by omega)
  rw [List.append_assoc] at hg
  rw [hn, hg]
  simp only [Option.bind_some]
  unfold gdr
  rw [if_pos ⟨(check_parts h).1, wlen h⟩, read_write t d h]
  simp only [Option.map_some]
  rw [Nat.add_assoc]
theorem bak_rec {r : Rec} (ho : nck r.ow = 0) (h : checkF r.t r.d = 0) (ht : r.t ≤ 65535) (hc : r.cl ≤ 65535) (hl : r.tt ≤ 4294967295) : Bak (prec r) grec r := by
  have e := bak_bind (k := fun o zs p => (g16 zs p).bind fun t => (g16 zs t.2).bind fun c => (g32 zs c.2).bind fun l => (g16 zs l.2).bind fun s => (gdat t.1 s.1 zs s.2).map fun d => ((⟨o, t.1, c.1, l.1, d.1⟩ : Rec), d.2)) (y := r) (bak_nm r.ow true ho) (kps_nm _ _ ho)
    (bak_bind (k := fun t zs p => (g16 zs p).bind fun c => (g32 zs c.2).bind fun l => (g16 zs l.2).bind fun s => (gdat t s.1 zs s.2).map fun d => ((⟨r.ow, t, c.1, l.1, d.1⟩ : Rec), d.2)) (y := r) (bak_16 r.t ht) (kps_by _)
      (bak_bind (k := fun c zs p => (g32 zs p).bind fun l => (g16 zs l.2).bind fun s => (gdat r.t s.1 zs s.2).map fun d => ((⟨r.ow, r.t, c, l.1, d.1⟩ : Rec), d.2)) (y := r) (bak_16 r.cl hc) (kps_by _)
        (bak_bind (k := fun l zs p => (g16 zs p).bind fun s => (gdat r.t s.1 zs s.2).map fun d => ((⟨r.ow, r.t, r.cl, l, d.1⟩ : Rec), d.2)) (y := r) (bak_32 r.tt hl) (kps_by _) (by
          have := bak_map (fun d => (⟨r.ow, r.t, r.cl, r.tt, d⟩ : Rec)) (bak_dat h)
          intro tx pl R hI hl
          have h2 := this tx pl R hI hl
          simp only [Option.map_bind] at h2
          exact h2))))
  exact e
theorem bak_qn {q : Qn} (ho : nck q.nm = 0) (ht : q.ty ≤ 65535) (hc : q.cl ≤ 65535) : Bak (pqn q) gqn q := by
  have e := bak_bind (k := fun o zs p => (g16 zs p).bind fun t => (g16 zs t.2).map fun c => ((⟨o, t.1, c.1⟩ : Qn), c.2)) (y := q) (bak_nm q.nm true ho) (kps_nm _ _ ho)
    (bak_bind (k := fun t zs p => (g16 zs p).map fun c => ((⟨q.nm, t, c.1⟩ : Qn), c.2)) (y := q) (bak_16 q.ty ht) (kps_by _)
      (bak_map (fun c => (⟨q.nm, q.ty, c⟩ : Qn)) (bak_16 q.cl hc)))
  exact e
end Go.Proofs.YtkjnbgekaifdfaaGreat
namespace Go.Proofs.YtkjnbgekaifdfaaGreat
open Go.ChangeShapes Go.WideShapes Go.ChangeAt Go.RowKit
set_option linter.unusedVariables false
set_option maxRecDepth 100000 in
set_option maxHeartbeats 1000000 in
theorem flags40 (b : Nat) (w : World) :
    Calls Tryz.prog 95 #[.pointer (some ⟨b, 0, none⟩)] w fun e w' => e = .returned (.agg #[.int .i64 32768, .pointer (some ⟨b, 1, none⟩), .int .i64 1024, .pointer (some ⟨b, 3, none⟩), .int .i64 512, .pointer (some ⟨b, 4, none⟩), .int .i64 256, .pointer (some ⟨b, 5, none⟩), .int .i64 128, .pointer (some ⟨b, 6, none⟩), .int .i64 32, .pointer (some ⟨b, 7, none⟩), .int .i64 16, .pointer (some ⟨b, 8, none⟩)]) ∧ Below w.heap.size w w' := by
  go_enter Tryz.func95, Tryz.ntmps95
  go_wp2
  go_region
  go_wp2
  refine bodyPost_ret (v := .agg #[.int .i64 32768, .pointer (some ⟨b, 1, none⟩), .int .i64 1024, .pointer (some ⟨b, 3, none⟩), .int .i64 512, .pointer (some ⟨b, 4, none⟩), .int .i64 256, .pointer (some ⟨b, 5, none⟩), .int .i64 128, .pointer (some ⟨b, 6, none⟩), .int .i64 32, .pointer (some ⟨b, 7, none⟩), .int .i64 16, .pointer (some ⟨b, 8, none⟩)]) ?_ rfl ⟨rfl, ?_⟩
  · simp [results, Tryz.results95, go_sem]
  exact ((Below.refl _ _).alloc (Nat.le_refl _) _).drew
end Go.Proofs.YtkjnbgekaifdfaaGreat
namespace Go.Proofs.YtkjnbgekaifdfaaGreat
set_option linter.unusedVariables false
theorem wrap_i64_nat (n : Nat) (h : n < 65536) : IntKind.i64.wrap (n : Int) = (n : Int) := by
  have e : (n : Int) % 2 ^ 64 = n := Int.emod_eq_of_lt (by omega) (by omega)
  simp only [IntKind.wrap, IntKind.bits, IntKind.signed, e]
  rw [if_neg]
  simp
  omega
theorem i64_or_nat (a b : Nat) (ha : a < 65536) (hb : b < 65536) : bits .or .i64 (a : Int) (b : Int) = ((a ||| b : Nat) : Int) := by
  have hx : a ||| b < 2 ^ 16 := Nat.or_lt_two_pow (by omega) (by omega)
  show IntKind.i64.wrap ((BitVec.ofInt 64 (a : Int) ||| BitVec.ofInt 64 (b : Int)).toNat : Int) = _
  rw [BitVec.toNat_or, ofInt_u64 a (by omega), ofInt_u64 b (by omega)]
  exact wrap_i64_nat _ (by omega)
/-- The flags' bits, in the code's order. -/
def fls (rs aa tc rd ra ad cd : Bool) : List (Bool × Nat) := [(rs, 32768), (aa, 1024), (tc, 512), (rd, 256), (ra, 128), (ad, 32), (cd, 16)]
def accN (n : Nat) (l : List (Bool × Nat)) : Nat := l.foldl (fun n x => if x.1 then n ||| x.2 else n) n
theorem accN_lt (l : List (Bool × Nat)) : ∀ n, n < 65536 → (∀ x ∈ l, x.2 < 65536) → accN n l < 65536 := by
  induction l with
  | nil => intro n h _; exact h
  | cons x r ih =>
    intro n h hx
    show accN (if x.1 then n ||| x.2 else n) r < 65536
    refine ih _ ?_ fun y hy => hx y (List.mem_cons_of_mem _ hy)
    split
    · exact Nat.or_lt_two_pow (n := 16) h (hx x List.mem_cons_self)
    · exact h
theorem fls_lt (rs aa tc rd ra ad cd : Bool) (x : Bool × Nat) (hx : x ∈ fls rs aa tc rd ra ad cd) : x.2 < 65536 := by
  simp only [fls, List.mem_cons, List.not_mem_nil, or_false] at hx
  rcases hx with rfl | rfl | rfl | rfl | rfl | rfl | rfl <;> simp
def packN (op rc : Nat) (rs aa tc rd ra ad cd : Bool) : Nat := accN (op * 2048 ||| rc) (fls rs aa tc rd ra ad cd)
theorem head_lt {op rc : Nat} (h1 : op < 16) (h2 : rc < 16) : op * 2048 ||| rc < 65536 := Nat.or_lt_two_pow (n := 16) (by omega) (by omega)
theorem packN_lt {op rc : Nat} (h1 : op < 16) (h2 : rc < 16) (rs aa tc rd ra ad cd : Bool) : packN op rc rs aa tc rd ra ad cd < 65536 :=
  accN_lt _ _ (head_lt h1 h2) (fls_lt rs aa tc rd ra ad cd)
theorem acc_take_lt {op rc : Nat} (h1 : op < 16) (h2 : rc < 16) (rs aa tc rd ra ad cd : Bool) (k : Nat) : accN (op * 2048 ||| rc) ((fls rs aa tc rd ra ad cd).take k) < 65536 :=
  accN_lt _ _ (head_lt h1 h2) fun x hx => fls_lt _ _ _ _ _ _ _ x (List.mem_of_mem_take hx)
theorem or_bit (n k : Nat) (h : n / 2 ^ k % 2 = 0) : n ||| 2 ^ k = n + 2 ^ k := by
  have hp : 0 < 2 ^ k := Nat.two_pow_pos k
  have e2 : 2 ^ (k + 1) = 2 ^ k * 2 := Nat.pow_succ ..
  have hlo : n % 2 ^ k < 2 ^ k := Nat.mod_lt _ hp
  have e0 : n = n / 2 ^ (k + 1) * 2 ^ (k + 1) + n % 2 ^ k := by
    have h1 := Nat.div_add_mod n (2 ^ k)
    have h2 : n / 2 ^ (k + 1) = n / 2 ^ k / 2 := by rw [e2, Nat.div_div_eq_div_mul]
    have h3 : n / 2 ^ k / 2 * 2 = n / 2 ^ k := by omega
    rw [h2, e2]
    have h4 : n / 2 ^ k / 2 * (2 ^ k * 2) = 2 ^ k * (n / 2 ^ k / 2 * 2) := by rw [Nat.mul_comm (2 ^ k) 2, ← Nat.mul_assoc, Nat.mul_comm]
    rw [h4, h3]
    exact h1.symm
  have hm : n / 2 ^ (k + 1) * 2 ^ (k + 1) % 2 ^ (k + 1) = 0 := Nat.mul_mod_left _ _
  have j1 : n / 2 ^ (k + 1) * 2 ^ (k + 1) ||| n % 2 ^ k = n / 2 ^ (k + 1) * 2 ^ (k + 1) + n % 2 ^ k := nat_join (k + 1) _ _ hm (by omega)
  have j2 : 2 ^ k ||| n % 2 ^ k = 2 ^ k + n % 2 ^ k := nat_join k _ _ (Nat.mod_self _) hlo
  have j3 : n / 2 ^ (k + 1) * 2 ^ (k + 1) ||| (2 ^ k + n % 2 ^ k) = n / 2 ^ (k + 1) * 2 ^ (k + 1) + (2 ^ k + n % 2 ^ k) := nat_join (k + 1) _ _ hm (by omega)
  calc n ||| 2 ^ k = (n / 2 ^ (k + 1) * 2 ^ (k + 1) ||| n % 2 ^ k) ||| 2 ^ k := by rw [j1, ← e0]
    _ = n / 2 ^ (k + 1) * 2 ^ (k + 1) ||| (2 ^ k ||| n % 2 ^ k) := by rw [Nat.or_assoc, Nat.or_comm (n % 2 ^ k)]
    _ = n / 2 ^ (k + 1) * 2 ^ (k + 1) + (2 ^ k + n % 2 ^ k) := by rw [j2, j3]
    _ = n + 2 ^ k := by omega
theorem step_bit (n k : Nat) (b : Bool) (h : n / 2 ^ k % 2 = 0) : (if b then n ||| 2 ^ k else n) = n + 2 ^ k * b.toNat := by
  cases b
  · simp
  · simp [or_bit n k h]
theorem packN_sum {op rc : Nat} (h1 : op < 16) (h2 : rc < 16) (rs aa tc rd ra ad cd : Bool) :
    packN op rc rs aa tc rd ra ad cd = op * 2048 + rc + 32768 * rs.toNat + 1024 * aa.toNat + 512 * tc.toNat + 256 * rd.toNat + 128 * ra.toNat + 32 * ad.toNat + 16 * cd.toNat := by
  have b1 := Bool.toNat_le rs; have b2 := Bool.toNat_le aa; have b3 := Bool.toNat_le tc; have b4 := Bool.toNat_le rd; have b5 := Bool.toNat_le ra; have b6 := Bool.toNat_le ad; have b7 := Bool.toNat_le cd
  have j0 : op * 2048 ||| rc = op * 2048 + rc := nat_join 11 _ _ (by omega) (by omega)
  simp only [packN, accN, fls, List.foldl_cons, List.foldl_nil, j0]
  have s1 := step_bit (op * 2048 + rc) 15 rs (by simp only [Nat.reducePow]; omega)
  simp only [Nat.reducePow] at s1
  rw [s1]
  have s2 := step_bit (op * 2048 + rc + 32768 * rs.toNat) 10 aa (by simp only [Nat.reducePow]; omega)
  simp only [Nat.reducePow] at s2
  rw [s2]
  have s3 := step_bit (op * 2048 + rc + 32768 * rs.toNat + 1024 * aa.toNat) 9 tc (by simp only [Nat.reducePow]; omega)
  simp only [Nat.reducePow] at s3
  rw [s3]
  have s4 := step_bit (op * 2048 + rc + 32768 * rs.toNat + 1024 * aa.toNat + 512 * tc.toNat) 8 rd (by simp only [Nat.reducePow]; omega)
  simp only [Nat.reducePow] at s4
  rw [s4]
  have s5 := step_bit (op * 2048 + rc + 32768 * rs.toNat + 1024 * aa.toNat + 512 * tc.toNat + 256 * rd.toNat) 7 ra (by simp only [Nat.reducePow]; omega)
  simp only [Nat.reducePow] at s5
  rw [s5]
  have s6 := step_bit (op * 2048 + rc + 32768 * rs.toNat + 1024 * aa.toNat + 512 * tc.toNat + 256 * rd.toNat + 128 * ra.toNat) 5 ad (by simp only [Nat.reducePow]; omega)
  simp only [Nat.reducePow] at s6
  rw [s6]
  have s7 := step_bit (op * 2048 + rc + 32768 * rs.toNat + 1024 * aa.toNat + 512 * tc.toNat + 256 * rd.toNat + 128 * ra.toNat + 32 * ad.toNat) 4 cd (by simp only [Nat.reducePow]; omega)
  simp only [Nat.reducePow] at s7
  rw [s7]
/-- What a number's flags are. -/
def unop (n : Nat) : Nat := n / 2048 % 16
def unrc (n : Nat) : Nat := n % 16
def unfl (n v : Nat) : Bool := n / v % 2 == 1
theorem unfl_of {n v : Nat} {b : Bool} (h : n / v % 2 = b.toNat) : unfl n v = b := by
  unfold unfl; rw [h]; cases b <;> rfl
theorem un_pack {op rc : Nat} (h1 : op < 16) (h2 : rc < 16) (rs aa tc rd ra ad cd : Bool) (N : Nat) (hN : N = packN op rc rs aa tc rd ra ad cd) :
    unop N = op ∧ unrc N = rc ∧ unfl N 64 = false ∧ unfl N 32768 = rs ∧ unfl N 1024 = aa ∧ unfl N 512 = tc ∧ unfl N 256 = rd ∧ unfl N 128 = ra ∧ unfl N 32 = ad ∧ unfl N 16 = cd := by
  rw [packN_sum h1 h2] at hN
  have b1 := Bool.toNat_le rs; have b2 := Bool.toNat_le aa; have b3 := Bool.toNat_le tc; have b4 := Bool.toNat_le rd; have b5 := Bool.toNat_le ra; have b6 := Bool.toNat_le ad; have b7 := Bool.toNat_le cd
  refine ⟨by unfold unop; omega, by unfold unrc; omega, unfl_of (by rw [Bool.toNat_false]; omega), unfl_of (by omega), unfl_of (by omega), unfl_of (by omega), unfl_of (by omega), unfl_of (by omega), unfl_of (by omega), unfl_of (by omega)⟩
/-- The document's sum. -/
def wt (b : Bool) (n : Nat) : Nat := if b then n else 0
end Go.Proofs.YtkjnbgekaifdfaaGreat
namespace Go.Proofs.YtkjnbgekaifdfaaGreat
open Go.ChangeShapes Go.WideShapes Go.ChangeAt Go.RowKit
set_option linter.unusedVariables false
set_option maxRecDepth 100000 in
set_option maxHeartbeats 1000000 in
theorem pack_no (id : Int) (rs : Bool) (op : Int) (aa tc rd ra ad cd : Bool) (rc : Int) (a1 a2 a3 a4 : Option Addr) (n1 n2 n3 n4 c1 c2 c3 c4 : Nat) (w : World)
    (h : op < 0 ∨ (0 ≤ op ∧ 15 < op) ∨ (0 ≤ op ∧ op ≤ 15 ∧ rc < 0) ∨ (0 ≤ op ∧ op ≤ 15 ∧ 0 ≤ rc ∧ 15 < rc)) :
    Calls Tryz.prog 68 #[.agg #[.int .u16 id, .bool rs, .int .i64 op, .bool aa, .bool tc, .bool rd, .bool ra, .bool ad, .bool cd, .int .i64 rc, .slice a1 n1 c1, .slice a2 n2 c2, .slice a3 n3 c3, .slice a4 n4 c4]] w fun e w' => e = .returned (.tuple #[.int .i64 0, .int .i64 2]) ∧ Below w.heap.size w w' := by
  rcases h with h | ⟨h0, h⟩ | ⟨h0, h1, h⟩ | ⟨h0, h1, h2, h⟩
  all_goals
    go_enter Tryz.func68, Tryz.ntmps68
    go_wp2
    go_ret2
    exact ⟨rfl, (Below.refl _ _).alloc (Nat.le_refl _) _⟩
theorem ix0 (b : Nat) (w : World) : (Instr.index 146 (.agg #[.int .i64 32768, .pointer (some ⟨b, 1, none⟩), .int .i64 1024, .pointer (some ⟨b, 3, none⟩), .int .i64 512, .pointer (some ⟨b, 4, none⟩), .int .i64 256, .pointer (some ⟨b, 5, none⟩), .int .i64 128, .pointer (some ⟨b, 6, none⟩), .int .i64 32, .pointer (some ⟨b, 7, none⟩), .int .i64 16, .pointer (some ⟨b, 8, none⟩)]) (.int .i64 0)).run Tryz.prog w = .ok (.agg #[.int .i64 32768, .pointer (some ⟨b, 1, none⟩)]) w := by kernel_rfl
theorem ix1 (b : Nat) (w : World) : (Instr.index 146 (.agg #[.int .i64 32768, .pointer (some ⟨b, 1, none⟩), .int .i64 1024, .pointer (some ⟨b, 3, none⟩), .int .i64 512, .pointer (some ⟨b, 4, none⟩), .int .i64 256, .pointer (some ⟨b, 5, none⟩), .int .i64 128, .pointer (some ⟨b, 6, none⟩), .int .i64 32, .pointer (some ⟨b, 7, none⟩), .int .i64 16, .pointer (some ⟨b, 8, none⟩)]) (.int .i64 1)).run Tryz.prog w = .ok (.agg #[.int .i64 1024, .pointer (some ⟨b, 3, none⟩)]) w := by kernel_rfl
theorem ix2 (b : Nat) (w : World) : (Instr.index 146 (.agg #[.int .i64 32768, .pointer (some ⟨b, 1, none⟩), .int .i64 1024, .pointer (some ⟨b, 3, none⟩), .int .i64 512, .pointer (some ⟨b, 4, none⟩), .int .i64 256, .pointer (some ⟨b, 5, none⟩), .int .i64 128, .pointer (some ⟨b, 6, none⟩), .int .i64 32, .pointer (some ⟨b, 7, none⟩), .int .i64 16, .pointer (some ⟨b, 8, none⟩)]) (.int .i64 2)).run Tryz.prog w = .ok (.agg #[.int .i64 512, .pointer (some ⟨b, 4, none⟩)]) w := by kernel_rfl
theorem ix3 (b : Nat) (w : World) : (Instr.index 146 (.agg #[.int .i64 32768, .pointer (some ⟨b, 1, none⟩), .int .i64 1024, .pointer (some ⟨b, 3, none⟩), .int .i64 512, .pointer (some ⟨b, 4, none⟩), .int .i64 256, .pointer (some ⟨b, 5, none⟩), .int .i64 128, .pointer (some ⟨b, 6, none⟩), .int .i64 32, .pointer (some ⟨b, 7, none⟩), .int .i64 16, .pointer (some ⟨b, 8, none⟩)]) (.int .i64 3)).run Tryz.prog w = .ok (.agg #[.int .i64 256, .pointer (some ⟨b, 5, none⟩)]) w := by kernel_rfl
theorem ix4 (b : Nat) (w : World) : (Instr.index 146 (.agg #[.int .i64 32768, .pointer (some ⟨b, 1, none⟩), .int .i64 1024, .pointer (some ⟨b, 3, none⟩), .int .i64 512, .pointer (some ⟨b, 4, none⟩), .int .i64 256, .pointer (some ⟨b, 5, none⟩), .int .i64 128, .pointer (some ⟨b, 6, none⟩), .int .i64 32, .pointer (some ⟨b, 7, none⟩), .int .i64 16, .pointer (some ⟨b, 8, none⟩)]) (.int .i64 4)).run Tryz.prog w = .ok (.agg #[.int .i64 128, .pointer (some ⟨b, 6, none⟩)]) w := by kernel_rfl
theorem ix5 (b : Nat) (w : World) : (Instr.index 146 (.agg #[.int .i64 32768, .pointer (some ⟨b, 1, none⟩), .int .i64 1024, .pointer (some ⟨b, 3, none⟩), .int .i64 512, .pointer (some ⟨b, 4, none⟩), .int .i64 256, .pointer (some ⟨b, 5, none⟩), .int .i64 128, .pointer (some ⟨b, 6, none⟩), .int .i64 32, .pointer (some ⟨b, 7, none⟩), .int .i64 16, .pointer (some ⟨b, 8, none⟩)]) (.int .i64 5)).run Tryz.prog w = .ok (.agg #[.int .i64 32, .pointer (some ⟨b, 7, none⟩)]) w := by kernel_rfl
theorem ix6 (b : Nat) (w : World) : (Instr.index 146 (.agg #[.int .i64 32768, .pointer (some ⟨b, 1, none⟩), .int .i64 1024, .pointer (some ⟨b, 3, none⟩), .int .i64 512, .pointer (some ⟨b, 4, none⟩), .int .i64 256, .pointer (some ⟨b, 5, none⟩), .int .i64 128, .pointer (some ⟨b, 6, none⟩), .int .i64 32, .pointer (some ⟨b, 7, none⟩), .int .i64 16, .pointer (some ⟨b, 8, none⟩)]) (.int .i64 6)).run Tryz.prog w = .ok (.agg #[.int .i64 16, .pointer (some ⟨b, 8, none⟩)]) w := by kernel_rfl
/-- A message's box. -/
def MBox (w : World) (b : Nat) (id : Value) (rs : Bool) (op : Value) (aa tc rd ra ad cd : Bool) : Prop :=
  b < w.heap.size ∧ w.cell? ⟨b, 1, none⟩ = some (.bool rs) ∧ w.cell? ⟨b, 3, none⟩ = some (.bool aa) ∧ w.cell? ⟨b, 4, none⟩ = some (.bool tc) ∧ w.cell? ⟨b, 5, none⟩ = some (.bool rd) ∧ w.cell? ⟨b, 6, none⟩ = some (.bool ra) ∧ w.cell? ⟨b, 7, none⟩ = some (.bool ad) ∧ w.cell? ⟨b, 8, none⟩ = some (.bool cd)
theorem MBox.below {w w' : World} {b : Nat} {id : Value} {rs : Bool} {op : Value} {aa tc rd ra ad cd : Bool} (h : MBox w b id rs op aa tc rd ra ad cd) (hb : Below w.heap.size w w') : MBox w' b id rs op aa tc rd ra ad cd := by
  obtain ⟨h0, h1, h2, h3, h4, h5, h6, h7⟩ := h
  exact ⟨Nat.lt_of_lt_of_le h0 hb.size, (hb.cell (p := ⟨b, 1, none⟩) h0).trans h1, (hb.cell (p := ⟨b, 3, none⟩) h0).trans h2, (hb.cell (p := ⟨b, 4, none⟩) h0).trans h3, (hb.cell (p := ⟨b, 5, none⟩) h0).trans h4, (hb.cell (p := ⟨b, 6, none⟩) h0).trans h5, (hb.cell (p := ⟨b, 7, none⟩) h0).trans h6, (hb.cell (p := ⟨b, 8, none⟩) h0).trans h7⟩
set_option maxRecDepth 100000 in
set_option maxHeartbeats 1000000 in
theorem pack_ok (id : Int) (rs : Bool) (op : Nat) (aa tc rd ra ad cd : Bool) (rc : Nat) (a1 a2 a3 a4 : Option Addr) (n1 n2 n3 n4 c1 c2 c3 c4 : Nat) (w : World)
    (ho : op < 16) (hr : rc < 16) :
    Calls Tryz.prog 68 #[.agg #[.int .u16 id, .bool rs, .int .i64 (op : Int), .bool aa, .bool tc, .bool rd, .bool ra, .bool ad, .bool cd, .int .i64 (rc : Int), .slice a1 n1 c1, .slice a2 n2 c2, .slice a3 n3 c3, .slice a4 n4 c4]] w fun e w' => e = .returned (.tuple #[.int .i64 (packN op rc rs aa tc rd ra ad cd : Nat), .int .i64 0]) ∧ Below w.heap.size w w' := by
  have h1 : ¬ (op : Int) < 0 := by omega
  have h2 : (op : Int) ≤ 15 := by omega
  have h3 : ¬ (rc : Int) < 0 := by omega
  have h4 : (rc : Int) ≤ 15 := by omega
  have HT : ∀ k, Hid (accN (op * 2048 ||| rc) ((fls rs aa tc rd ra ad cd).take k) < 65536) := fun k => acc_take_lt ho hr rs aa tc rd ra ad cd k
  have HP : Hid (packN op rc rs aa tc rd ra ad cd = accN (op * 2048 ||| rc) (fls rs aa tc rd ra ad cd)) := rfl
  obtain ⟨N0, hN0⟩ : ∃ N0, N0 = op * 2048 ||| rc := ⟨_, rfl⟩
  have h5 : bits .or .i64 ((op : Int) * 2048) (rc : Int) = (N0 : Int) := by
    have := i64_or_nat (op * 2048) rc (by omega) (by omega)
    rw [hN0]; simpa using this
  have HT' : ∀ k, Hid (accN N0 ((fls rs aa tc rd ra ad cd).take k) < 65536) := by rw [hN0]; exact HT
  have HP' : Hid (packN op rc rs aa tc rd ra ad cd = accN N0 (fls rs aa tc rd ra ad cd)) := by rw [hN0]; exact HP
  clear HT HP hN0
  generalize packN op rc rs aa tc rd ra ad cd = P at *
  go_enter Tryz.func68, Tryz.ntmps68
  go_wp2_with fail
  refine (flags40 _ _).mono ?_
  rintro e w1 ⟨rfl, hb1⟩
  have HM : Hid (MBox w1 w.heap.size (.int .u16 id) rs (.int .i64 op) aa tc rd ra ad cd) := by
    refine MBox.below ?_ hb1
    simp [MBox]
  have HB : Hid (Below w.heap.size w w1) := (((Below.refl _ _).alloc (Nat.le_refl _) _).trans (hb1.mono (by simp)))
  clear hb1
  go_wp2_with fail
  go_loopw [4, 32] (fun y x wr => ∃ k : Nat, k ≤ 7 ∧ x = .int .i64 (k : Int) ∧ y = .int .i64 (accN N0 ((fls rs aa tc rd ra ad cd).take k) : Nat) ∧ Hid (Below w1.heap.size w1 wr)) (fun _ x _ => 7 - (intOf x).toNat)
  case atStart => exact ⟨0, by omega, rfl, rfl, Below.refl _ _⟩
  case round =>
    obtain ⟨k, hk, rfl, rfl, HW⟩ := hrel
    have HM' := HM.out.below HW.out
    obtain ⟨m0, m1, m2, m3, m4, m5, m6, m7⟩ := HM'
    by_cases hlt : k < 7
    · have hlt' : (k : Int) < 7 := by omega
      have hstep : ∀ (x : Bool) (v : Nat), (fls rs aa tc rd ra ad cd)[k]? = some (x, v) → Hid (v < 65536 → (x = true → bits .or .i64 (accN N0 ((fls rs aa tc rd ra ad cd).take k) : Nat) (v : Int) = (accN N0 ((fls rs aa tc rd ra ad cd).take (k + 1)) : Nat)) ∧ (x = false → accN N0 ((fls rs aa tc rd ra ad cd).take (k + 1)) = accN N0 ((fls rs aa tc rd ra ad cd).take k))) := by
        intro x v e hv
        have e2 : (fls rs aa tc rd ra ad cd).take (k + 1) = (fls rs aa tc rd ra ad cd).take k ++ [(x, v)] := by rw [List.take_add_one, e]; rfl
        constructor
        · intro ex
          rw [i64_or_nat _ _ (HT' k).out hv, e2]
          simp [accN, ex]
        · intro ex
          rw [e2]
          simp [accN, ex]
      rcases Nat.lt_or_ge k 1 with hk' | hk'
      · obtain rfl : k = 0 := by omega
        have HS := hstep rs 32768 rfl
        have ix := ix0 w.heap.size
        clear hstep
        generalize accN N0 ((fls rs aa tc rd ra ad cd).take 0) = A at *
        obtain ⟨A', hA'⟩ : ∃ A', A' = accN N0 ((fls rs aa tc rd ra ad cd).take (0 + 1)) := ⟨_, rfl⟩
        rw [← hA'] at HS
        have HA' : Hid (A' = accN N0 ((fls rs aa tc rd ra ad cd).take (0 + 1))) := hA'
        clear hA'
        obtain ⟨xx, hxx⟩ : ∃ xx, xx = rs := ⟨_, rfl⟩
        rw [← hxx] at m1 HS
        have HX : Hid (xx = rs) := hxx
        clear hxx
        cases xx
        · have hA : Hid (A' = A) := (HS.out (by omega)).2 rfl
          go_wp2
          go_round
          case rel => exact ⟨0 + 1, by omega, by go_num, by rw [← HA'.out, hA.out], (HW.out.alloc HW.out.size _)⟩
          case measure => simp [intOf]
        · have hA : bits .or .i64 (A : Int) 32768 = (A' : Int) := (HS.out (by omega)).1 rfl
          go_wp2
          go_round
          case rel => exact ⟨0 + 1, by omega, by go_num, by rw [← HA'.out], (HW.out.alloc HW.out.size _)⟩
          case measure => simp [intOf]
      rcases Nat.lt_or_ge k 2 with hk' | hk'
      · obtain rfl : k = 1 := by omega
        have HS := hstep aa 1024 rfl
        have ix := ix1 w.heap.size
        clear hstep
        generalize accN N0 ((fls rs aa tc rd ra ad cd).take 1) = A at *
        obtain ⟨A', hA'⟩ : ∃ A', A' = accN N0 ((fls rs aa tc rd ra ad cd).take (1 + 1)) := ⟨_, rfl⟩
        rw [← hA'] at HS
        have HA' : Hid (A' = accN N0 ((fls rs aa tc rd ra ad cd).take (1 + 1))) := hA'
        clear hA'
        obtain ⟨xx, hxx⟩ : ∃ xx, xx = aa := ⟨_, rfl⟩
        rw [← hxx] at m2 HS
        have HX : Hid (xx = aa) := hxx
        clear hxx
        cases xx
        · have hA : Hid (A' = A) := (HS.out (by omega)).2 rfl
          go_wp2
          go_round
          case rel => exact ⟨1 + 1, by omega, by go_num, by rw [← HA'.out, hA.out], (HW.out.alloc HW.out.size _)⟩
          case measure => simp [intOf]
        · have hA : bits .or .i64 (A : Int) 1024 = (A' : Int) := (HS.out (by omega)).1 rfl
          go_wp2
          go_round
          case rel => exact ⟨1 + 1, by omega, by go_num, by rw [← HA'.out], (HW.out.alloc HW.out.size _)⟩
          case measure => simp [intOf]
      rcases Nat.lt_or_ge k 3 with hk' | hk'
      · obtain rfl : k = 2 := by omega
        have HS := hstep tc 512 rfl
        have ix := ix2 w.heap.size
        clear hstep
        generalize accN N0 ((fls rs aa tc rd ra ad cd).take 2) = A at *
        obtain ⟨A', hA'⟩ : ∃ A', A' = accN N0 ((fls rs aa tc rd ra ad cd).take (2 + 1)) := ⟨_, rfl⟩
        rw [← hA'] at HS
        have HA' : Hid (A' = accN N0 ((fls rs aa tc rd ra ad cd).take (2 + 1))) := hA'
        clear hA'
        obtain ⟨xx, hxx⟩ : ∃ xx, xx = tc := ⟨_, rfl⟩
        rw [← hxx] at m3 HS
        have HX : Hid (xx = tc) := hxx
        clear hxx
        cases xx
        · have hA : Hid (A' = A) := (HS.out (by omega)).2 rfl
          go_wp2
          go_round
          case rel => exact ⟨2 + 1, by omega, by go_num, by rw [← HA'.out, hA.out], (HW.out.alloc HW.out.size _)⟩
          case measure => simp [intOf]
        · have hA : bits .or .i64 (A : Int) 512 = (A' : Int) := (HS.out (by omega)).1 rfl
          go_wp2
          go_round
          case rel => exact ⟨2 + 1, by omega, by go_num, by rw [← HA'.out], (HW.out.alloc HW.out.size _)⟩
          case measure => simp [intOf]
      rcases Nat.lt_or_ge k 4 with hk' | hk'
      · obtain rfl : k = 3 := by omega
        have HS := hstep rd 256 rfl
        have ix := ix3 w.heap.size
        clear hstep
        generalize accN N0 ((fls rs aa tc rd ra ad cd).take 3) = A at *
        obtain ⟨A', hA'⟩ : ∃ A', A' = accN N0 ((fls rs aa tc rd ra ad cd).take (3 + 1)) := ⟨_, rfl⟩
        rw [← hA'] at HS
        have HA' : Hid (A' = accN N0 ((fls rs aa tc rd ra ad cd).take (3 + 1))) := hA'
        clear hA'
        obtain ⟨xx, hxx⟩ : ∃ xx, xx = rd := ⟨_, rfl⟩
        rw [← hxx] at m4 HS
        have HX : Hid (xx = rd) := hxx
        clear hxx
        cases xx
        · have hA : Hid (A' = A) := (HS.out (by omega)).2 rfl
          go_wp2
          go_round
          case rel => exact ⟨3 + 1, by omega, by go_num, by rw [← HA'.out, hA.out], (HW.out.alloc HW.out.size _)⟩
          case measure => simp [intOf]
        · have hA : bits .or .i64 (A : Int) 256 = (A' : Int) := (HS.out (by omega)).1 rfl
          go_wp2
          go_round
          case rel => exact ⟨3 + 1, by omega, by go_num, by rw [← HA'.out], (HW.out.alloc HW.out.size _)⟩
          case measure => simp [intOf]
      rcases Nat.lt_or_ge k 5 with hk' | hk'
      · obtain rfl : k = 4 := by omega
        have HS := hstep ra 128 rfl
        have ix := ix4 w.heap.size
        clear hstep
        generalize accN N0 ((fls rs aa tc rd ra ad cd).take 4) = A at *
        obtain ⟨A', hA'⟩ : ∃ A', A' = accN N0 ((fls rs aa tc rd ra ad cd).take (4 + 1)) := ⟨_, rfl⟩
        rw [← hA'] at HS
        have HA' : Hid (A' = accN N0 ((fls rs aa tc rd ra ad cd).take (4 + 1))) := hA'
        clear hA'
        obtain ⟨xx, hxx⟩ : ∃ xx, xx = ra := ⟨_, rfl⟩
        rw [← hxx] at m5 HS
        have HX : Hid (xx = ra) := hxx
        clear hxx
        cases xx
        · have hA : Hid (A' = A) := (HS.out (by omega)).2 rfl
          go_wp2
          go_round
          case rel => exact ⟨4 + 1, by omega, by go_num, by rw [← HA'.out, hA.out], (HW.out.alloc HW.out.size _)⟩
          case measure => simp [intOf]
        · have hA : bits .or .i64 (A : Int) 128 = (A' : Int) := (HS.out (by omega)).1 rfl
          go_wp2
          go_round
          case rel => exact ⟨4 + 1, by omega, by go_num, by rw [← HA'.out], (HW.out.alloc HW.out.size _)⟩
          case measure => simp [intOf]
      rcases Nat.lt_or_ge k 6 with hk' | hk'
      · obtain rfl : k = 5 := by omega
        have HS := hstep ad 32 rfl
        have ix := ix5 w.heap.size
        clear hstep
        generalize accN N0 ((fls rs aa tc rd ra ad cd).take 5) = A at *
        obtain ⟨A', hA'⟩ : ∃ A', A' = accN N0 ((fls rs aa tc rd ra ad cd).take (5 + 1)) := ⟨_, rfl⟩
        rw [← hA'] at HS
        have HA' : Hid (A' = accN N0 ((fls rs aa tc rd ra ad cd).take (5 + 1))) := hA'
        clear hA'
        obtain ⟨xx, hxx⟩ : ∃ xx, xx = ad := ⟨_, rfl⟩
        rw [← hxx] at m6 HS
        have HX : Hid (xx = ad) := hxx
        clear hxx
        cases xx
        · have hA : Hid (A' = A) := (HS.out (by omega)).2 rfl
          go_wp2
          go_round
          case rel => exact ⟨5 + 1, by omega, by go_num, by rw [← HA'.out, hA.out], (HW.out.alloc HW.out.size _)⟩
          case measure => simp [intOf]
        · have hA : bits .or .i64 (A : Int) 32 = (A' : Int) := (HS.out (by omega)).1 rfl
          go_wp2
          go_round
          case rel => exact ⟨5 + 1, by omega, by go_num, by rw [← HA'.out], (HW.out.alloc HW.out.size _)⟩
          case measure => simp [intOf]
      rcases Nat.lt_or_ge k 7 with hk' | hk'
      · obtain rfl : k = 6 := by omega
        have HS := hstep cd 16 rfl
        have ix := ix6 w.heap.size
        clear hstep
        generalize accN N0 ((fls rs aa tc rd ra ad cd).take 6) = A at *
        obtain ⟨A', hA'⟩ : ∃ A', A' = accN N0 ((fls rs aa tc rd ra ad cd).take (6 + 1)) := ⟨_, rfl⟩
        rw [← hA'] at HS
        have HA' : Hid (A' = accN N0 ((fls rs aa tc rd ra ad cd).take (6 + 1))) := hA'
        clear hA'
        obtain ⟨xx, hxx⟩ : ∃ xx, xx = cd := ⟨_, rfl⟩
        rw [← hxx] at m7 HS
        have HX : Hid (xx = cd) := hxx
        clear hxx
        cases xx
        · have hA : Hid (A' = A) := (HS.out (by omega)).2 rfl
          go_wp2
          go_round
          case rel => exact ⟨6 + 1, by omega, by go_num, by rw [← HA'.out, hA.out], (HW.out.alloc HW.out.size _)⟩
          case measure => simp [intOf]
        · have hA : bits .or .i64 (A : Int) 16 = (A' : Int) := (HS.out (by omega)).1 rfl
          go_wp2
          go_round
          case rel => exact ⟨6 + 1, by omega, by go_num, by rw [← HA'.out], (HW.out.alloc HW.out.size _)⟩
          case measure => simp [intOf]
      · omega
    · obtain rfl : k = 7 := by omega
      go_wp2
      go_ret2
      refine ⟨?_, HB.out.trans (HW.out.mono HB.out.size)⟩
      rw [HP'.out]
      rfl
end Go.Proofs.YtkjnbgekaifdfaaGreat
namespace Go.Proofs.YtkjnbgekaifdfaaGreat
open Go.ChangeShapes Go.WideShapes Go.ChangeAt Go.RowKit
set_option linter.unusedVariables false
set_option linter.unusedSimpArgs false
theorem copy_into (W : World) (D S so : Nat) (x y z0 z1 z2 z3 c0 c1 c2 c3 : Int) (sc : Nat) (hD : W.heap[D]? = some (.cells #[.int .i64 x, .int .i64 y, .int .i64 z0, .int .i64 z1, .int .i64 z2, .int .i64 z3] 114))
    (h0 : W.cell? ⟨S, 0, none⟩ = some (.int .i64 c0)) (h1 : W.cell? ⟨S, 1, none⟩ = some (.int .i64 c1)) (h2 : W.cell? ⟨S, 2, none⟩ = some (.int .i64 c2)) (h3 : W.cell? ⟨S, 3, none⟩ = some (.int .i64 c3)) :
    (Builtin.copy_ #[43, 43] 3 #[.slice (some ⟨D, 2, none⟩) 4 4, .slice (some ⟨S, 0, none⟩) 4 4]).run Tryz.prog W = .ok (.int .i64 4) (W.setRow D #[.int .i64 x, .int .i64 y, .int .i64 c0, .int .i64 c1, .int .i64 c2, .int .i64 c3]) := by
  have := run_copy_row (P := Tryz.prog) W 43 43 3 3 D 2 4 4 ⟨S, 0, none⟩ 4 4 _ 114 [.int .i64 c0, .int .i64 c1, .int .i64 c2, .int .i64 c3] Tryz.underlying43 (by kernel_rfl) hD (by simp)
    (by
      intro j u hj
      match j, hj with
      | 0, hj => simp at hj; subst hj; simpa [Addr.add] using h0
      | 1, hj => simp at hj; subst hj; simpa [Addr.add] using h1
      | 2, hj => simp at hj; subst hj; simpa [Addr.add] using h2
      | 3, hj => simp at hj; subst hj; simpa [Addr.add] using h3
      | j + 4, hj => simp at hj) (by simp) (by intro u hu; simp at hu; rcases hu with rfl | rfl | rfl | rfl <;> rfl)
  rw [this]
  simp [goInt]
/-- What a row that is set holds. -/
theorem setRow_block {W : World} {D : Nat} {cs : Array Value} {ty : TypeId} (hD : W.heap[D]? = some (.cells cs ty)) (ds : Array Value) : (W.setRow D ds).heap[D]? = some (.cells ds ty) := by
  simp [World.setRow, Array.getElem?_modify, hD]
theorem setRow_size (W : World) (D : Nat) (ds : Array Value) : (W.setRow D ds).heap.size = W.heap.size := by simp [World.setRow]
theorem cell_of_block {W : World} {D i : Nat} {cs : Array Value} {ty : TypeId} {v : Value} (hD : W.heap[D]? = some (.cells cs ty)) (hv : cs[i]? = some v) : W.cell? ⟨D, i, none⟩ = some v := by
  simp [World.cell?, hD, hv]
theorem frozen_of_block {W : World} {D i : Nat} {cs : Array Value} {ty : TypeId} (hD : W.heap[D]? = some (.cells cs ty)) : W.frozen? ⟨D, i, none⟩ = false := by
  simp [World.frozen?, hD]
theorem alloc3 (w : World) (o1 o2 o3 : Obj) : (((w.alloc o1).alloc o2).alloc o3).drew.heap[w.heap.size]? = some o1 ∧ (((w.alloc o1).alloc o2).alloc o3).drew.heap[w.heap.size + 1]? = some o2 ∧ (((w.alloc o1).alloc o2).alloc o3).drew.heap[w.heap.size + 1 + 1]? = some o3 := by
  refine ⟨?_, ?_, ?_⟩
  · show (((w.heap.push o1).push o2).push o3)[w.heap.size]? = some o1
    simp only [Array.getElem?_push, Array.size_push]
    repeat (first | rw [if_pos (by omega)] | rw [if_neg (by omega)])
    try simp
  · show (((w.heap.push o1).push o2).push o3)[w.heap.size + 1]? = some o2
    simp only [Array.getElem?_push, Array.size_push]
    repeat (first | rw [if_pos (by omega)] | rw [if_neg (by omega)])
    try simp
  · show (((w.heap.push o1).push o2).push o3)[w.heap.size + 1 + 1]? = some o3
    simp only [Array.getElem?_push, Array.size_push]
    repeat (first | rw [if_pos (by omega)] | rw [if_neg (by omega)])
    try simp
set_option maxRecDepth 100000 in
set_option maxHeartbeats 1000000 in
theorem together_any (x y c0 c1 c2 c3 : Int) (w : World) :
    Calls Tryz.prog 69 #[.int .i64 x, .int .i64 y, .agg #[.int .i64 c0, .int .i64 c1, .int .i64 c2, .int .i64 c3]] w fun e w' => e = .returned (.agg #[.int .i64 x, .int .i64 y, .int .i64 c0, .int .i64 c1, .int .i64 c2, .int .i64 c3]) ∧ Below w.heap.size w w' := by
  obtain ⟨W2, h, g0, g1, g2, g3, g4, g5, hs, HB⟩ : ∃ W2, (Builtin.copy_ #[43, 43] 3 #[.slice (some ⟨w.heap.size + 1 + 1, 2, none⟩) 4 4, .slice (some ⟨w.heap.size, 0, none⟩) 4 4]).run Tryz.prog (((w.alloc (.cells #[.int .i64 c0, .int .i64 c1, .int .i64 c2, .int .i64 c3] 74)).alloc (.cells #[.int .i64 0, .int .i64 0, .int .i64 0, .int .i64 0, .int .i64 0, .int .i64 0] 114)).alloc (.cells #[.int .i64 x, .int .i64 y, .int .i64 0, .int .i64 0, .int .i64 0, .int .i64 0] 114)).drew = .ok (.int .i64 4) W2 ∧
      W2.cell? ⟨w.heap.size + 1 + 1, 0, none⟩ = some (.int .i64 x) ∧ W2.cell? ⟨w.heap.size + 1 + 1, 1, none⟩ = some (.int .i64 y) ∧ W2.cell? ⟨w.heap.size + 1 + 1, 2, none⟩ = some (.int .i64 c0) ∧ W2.cell? ⟨w.heap.size + 1 + 1, 3, none⟩ = some (.int .i64 c1) ∧ W2.cell? ⟨w.heap.size + 1 + 1, 4, none⟩ = some (.int .i64 c2) ∧ W2.cell? ⟨w.heap.size + 1 + 1, 5, none⟩ = some (.int .i64 c3) ∧ W2.heap[w.heap.size + 1]? = some (.cells #[.int .i64 0, .int .i64 0, .int .i64 0, .int .i64 0, .int .i64 0, .int .i64 0] 114) ∧ Hid (Below w.heap.size w W2) := by
    obtain ⟨f1, f2, hD⟩ := alloc3 w (.cells #[.int .i64 c0, .int .i64 c1, .int .i64 c2, .int .i64 c3] 74) (.cells #[.int .i64 0, .int .i64 0, .int .i64 0, .int .i64 0, .int .i64 0, .int .i64 0] 114) (.cells #[.int .i64 x, .int .i64 y, .int .i64 0, .int .i64 0, .int .i64 0, .int .i64 0] 114)
    have hb := setRow_block hD #[.int .i64 x, .int .i64 y, .int .i64 c0, .int .i64 c1, .int .i64 c2, .int .i64 c3]
    refine ⟨_, copy_into _ _ _ 0 x y 0 0 0 0 c0 c1 c2 c3 0 hD (cell_of_block f1 rfl) (cell_of_block f1 rfl) (cell_of_block f1 rfl) (cell_of_block f1 rfl), cell_of_block hb rfl, cell_of_block hb rfl, cell_of_block hb rfl, cell_of_block hb rfl, cell_of_block hb rfl, cell_of_block hb rfl, ?_, ?_⟩
    · rw [setRow_other _ _ _ _ (by omega)]; exact f2
    · exact below_setRow ((((((Below.refl _ _).alloc (Nat.le_refl _) _).alloc (by simp) _).alloc (by simp; omega) _)).drew) (by omega) _
  go_enter Tryz.func69, Tryz.ntmps69
  go_wp2
  go_region
  have hlt : w.heap.size + 1 < W2.heap.size := by
    rcases Nat.lt_or_ge (w.heap.size + 1) W2.heap.size with h | h
    · exact h
    · rw [Array.getElem?_eq_none h] at hs; cases hs
  have k0 := cell_of_block (i := 0) hs rfl
  have k1 := cell_of_block (i := 1) hs rfl
  have k2 := cell_of_block (i := 2) hs rfl
  have k3 := cell_of_block (i := 3) hs rfl
  have k4 := cell_of_block (i := 4) hs rfl
  have k5 := cell_of_block (i := 5) hs rfl
  have l0 := frozen_of_block (i := 0) hs
  have l1 := frozen_of_block (i := 1) hs
  have l2 := frozen_of_block (i := 2) hs
  have l3 := frozen_of_block (i := 3) hs
  have l4 := frozen_of_block (i := 4) hs
  have l5 := frozen_of_block (i := 5) hs
  clear h
  have HS : Hid (W2.heap[w.heap.size + 1]? = some (.cells #[.int .i64 0, .int .i64 0, .int .i64 0, .int .i64 0, .int .i64 0, .int .i64 0] 114)) := hs
  clear hs
  go_wp2
  refine bodyPost_ret (v := .agg #[.int .i64 x, .int .i64 y, .int .i64 c0, .int .i64 c1, .int .i64 c2, .int .i64 c3]) ?_ rfl ⟨rfl, ?_⟩
  · simp [results, Tryz.results69, go_sem, k0, k1, k2, k3, k4, k5, hlt]
  · exact (((((HB.out.setCell (p := ⟨_, _, none⟩) (by simp) _).setCell (p := ⟨_, _, none⟩) (by simp) _).setCell (p := ⟨_, _, none⟩) (by simp) _).setCell (p := ⟨_, _, none⟩) (by simp) _).setCell (p := ⟨_, _, none⟩) (by simp) _).setCell (p := ⟨_, _, none⟩) (by simp) _
end Go.Proofs.YtkjnbgekaifdfaaGreat
namespace Go.Proofs.YtkjnbgekaifdfaaGreat
open Go.ChangeShapes Go.WideShapes Go.ChangeAt Go.RowKit
set_option linter.unusedVariables false
set_option linter.unusedSimpArgs false
def nsL (id F c0 c1 c2 c3 : Int) : List Int := [id, F, c0, c1, c2, c3]
def b16 (m : Int) : List Int := [m / 256, m % 256]
def b16s (l : List Int) : List Int := l.flatMap b16
def okN (m : Int) : Prop := 0 ≤ m ∧ m ≤ 65535
theorem b16s_len (l : List Int) : (b16s l).length = 2 * l.length := by
  induction l with
  | nil => rfl
  | cons x r ih => simp only [b16s, List.flatMap_cons, List.length_append, List.length_cons] at ih ⊢; rw [ih]; simp [b16]; omega
theorem b16s_take (l : List Int) (k : Nat) (m : Int) (h : l[k]? = some m) : b16s (l.take (k + 1)) = b16s (l.take k) ++ [m / 256, m % 256] := by
  rw [List.take_add_one, h]
  simp [b16s, b16]
theorem ixN (id F c0 c1 c2 c3 : Int) (k : Nat) (hk : k < 6) : ∃ m, (nsL id F c0 c1 c2 c3)[k]? = some m ∧ ∀ w : World, (Instr.index 114 (.agg #[.int .i64 id, .int .i64 F, .int .i64 c0, .int .i64 c1, .int .i64 c2, .int .i64 c3]) (.int .i64 (k : Int))).run Tryz.prog w = .ok (.int .i64 m) w := by
  match k, hk with
  | 0, _ => exact ⟨id, rfl, fun w => by kernel_rfl⟩
  | 1, _ => exact ⟨F, rfl, fun w => by kernel_rfl⟩
  | 2, _ => exact ⟨c0, rfl, fun w => by kernel_rfl⟩
  | 3, _ => exact ⟨c1, rfl, fun w => by kernel_rfl⟩
  | 4, _ => exact ⟨c2, rfl, fun w => by kernel_rfl⟩
  | 5, _ => exact ⟨c3, rfl, fun w => by kernel_rfl⟩
  | k + 6, h => omega
theorem make12 (w : World) : (Instr.makeSlice 29 (.int .i64 0) (.int .i64 12)).run Tryz.prog w = .ok (.slice (some ⟨w.heap.size, 0, none⟩) 0 12) (w.alloc (.cells #[.int .u8 0, .int .u8 0, .int .u8 0, .int .u8 0, .int .u8 0, .int .u8 0, .int .u8 0, .int .u8 0, .int .u8 0, .int .u8 0, .int .u8 0, .int .u8 0] 5)) := by kernel_rfl
theorem alloc_at (w : World) (o : Obj) : (w.alloc o).heap[w.heap.size]? = some o := by
  show (w.heap.push o)[w.heap.size]? = some o
  simp
theorem make12_own (w : World) (B : Nat) (hB : B ≤ w.heap.size) : Own B (w.alloc (.cells #[.int .u8 0, .int .u8 0, .int .u8 0, .int .u8 0, .int .u8 0, .int .u8 0, .int .u8 0, .int .u8 0, .int .u8 0, .int .u8 0, .int .u8 0, .int .u8 0] 5)) (.slice (some ⟨w.heap.size, 0, none⟩) 0 12) 0 (List.replicate 12 0) := by
  refine .inr ⟨w.heap.size, rfl, hB, ⟨?_, ?_⟩, by simp, by simp [maxLen]⟩
  · rw [alloc_at]; rfl
  · intro z hz; rw [List.mem_replicate] at hz; obtain ⟨_, rfl⟩ := hz; omega
theorem two_rd (w : World) (m : Int) (h : okN m) : Rd (w.alloc (.cells #[.int .u8 (m / 256), .int .u8 (m % 256)] 5)) (some ⟨w.heap.size, 0, none⟩) [m / 256, m % 256] := by
  have hb : Blk (w.alloc (.cells #[.int .u8 (m / 256), .int .u8 (m % 256)] 5)) w.heap.size [m / 256, m % 256] := ⟨alloc_at _ _, by
    intro z hz
    simp only [List.mem_cons, List.not_mem_nil, or_false] at hz
    obtain ⟨h0, h1⟩ := h
    rcases hz with rfl | rfl <;> omega⟩
  exact hb.rd 2
/-- What Bytes answers, the flags' number being F. -/
def BtPost (w : World) (ns : List Int) (e : Ending) (w' : World) : Prop :=
  ((∀ m ∈ ns, okN m) → ∃ g, e = .returned (.tuple #[.slice (some ⟨g, 0, none⟩) 12 12, .int .i64 0]) ∧ w.heap.size ≤ g ∧ Blk w' g (b16s ns)) ∧
  ((¬ ∀ m ∈ ns, okN m) → e = .returned (.tuple #[.slice none 0 0, .int .i64 2])) ∧ Below w.heap.size w w'
set_option maxRecDepth 100000 in
set_option maxHeartbeats 1000000 in
theorem bytes10_arg (id : Int) (rs : Bool) (op : Int) (aa tc rd ra ad cd : Bool) (rc : Int) (a1 a2 a3 a4 : Option Addr) (n1 n2 n3 n4 k1 k2 k3 k4 : Nat) (c0 c1 c2 c3 : Int) (w : World)
    (h : ¬ (0 ≤ op ∧ op ≤ 15 ∧ 0 ≤ rc ∧ rc ≤ 15)) :
    Calls Tryz.prog 41 #[.agg #[.int .u16 id, .bool rs, .int .i64 op, .bool aa, .bool tc, .bool rd, .bool ra, .bool ad, .bool cd, .int .i64 rc, .slice a1 n1 k1, .slice a2 n2 k2, .slice a3 n3 k3, .slice a4 n4 k4], .agg #[.int .i64 c0, .int .i64 c1, .int .i64 c2, .int .i64 c3]] w fun e w' => e = .returned (.tuple #[.slice none 0 0, .int .i64 2]) ∧ Below w.heap.size w w' := by
  have H : Hid (op < 0 ∨ (0 ≤ op ∧ 15 < op) ∨ (0 ≤ op ∧ op ≤ 15 ∧ rc < 0) ∨ (0 ≤ op ∧ op ≤ 15 ∧ 0 ≤ rc ∧ 15 < rc)) := by show _ ∨ _; omega
  clear h
  go_enter Tryz.func41, Tryz.ntmps41
  go_wp2_with fail
  refine (pack_no id rs op aa tc rd ra ad cd rc a1 a2 a3 a4 n1 n2 n3 n4 k1 k2 k3 k4 _ H.out).mono ?_
  rintro e w1 ⟨rfl, hb1⟩
  go_wp2
  go_ret2
  exact ⟨rfl, (((Below.refl _ _).alloc (Nat.le_refl _) _).alloc (by simp) _).trans (hb1.mono (by simp; omega))⟩
set_option maxRecDepth 100000 in
set_option maxHeartbeats 1000000 in
theorem bytes10 (id : Nat) (rs : Bool) (op : Nat) (aa tc rd ra ad cd : Bool) (rc : Nat) (a1 a2 a3 a4 : Option Addr) (n1 n2 n3 n4 k1 k2 k3 k4 : Nat) (c0 c1 c2 c3 : Int) (w : World)
    (hi : id < 65536) (ho : op < 16) (hr : rc < 16) :
    Calls Tryz.prog 41 #[.agg #[.int .u16 (id : Int), .bool rs, .int .i64 (op : Int), .bool aa, .bool tc, .bool rd, .bool ra, .bool ad, .bool cd, .int .i64 (rc : Int), .slice a1 n1 k1, .slice a2 n2 k2, .slice a3 n3 k3, .slice a4 n4 k4], .agg #[.int .i64 c0, .int .i64 c1, .int .i64 c2, .int .i64 c3]] w fun e w' => BtPost w (nsL id (packN op rc rs aa tc rd ra ad cd : Nat) c0 c1 c2 c3) e w' := by
  have hP := packN_lt ho hr rs aa tc rd ra ad cd
  have KP := fun w' => pack_ok id rs op aa tc rd ra ad cd rc a1 a2 a3 a4 n1 n2 n3 n4 k1 k2 k3 k4 w' ho hr
  generalize packN op rc rs aa tc rd ra ad cd = F at *
  obtain ⟨ns, hns⟩ : ∃ ns, ns = nsL id F c0 c1 c2 c3 := ⟨_, rfl⟩
  have IX := fun k hk => ixN id F c0 c1 c2 c3 k hk
  rw [← hns] at IX ⊢
  have HNL : Hid (ns.length = 6) := by rw [hns]; rfl
  clear hns
  have KP' : ∀ w', Hid (Calls Tryz.prog 68 _ w' _) := KP
  clear KP
  have hmk := make12
  go_enter Tryz.func41, Tryz.ntmps41
  go_wp2_with fail
  refine (KP' _).out.mono ?_
  rintro e w1 ⟨rfl, hb1⟩
  have HB1 : Hid (Below w.heap.size w w1 ∧ w.heap.size + 1 + 1 ≤ w1.heap.size) := ⟨(((Below.refl _ _).alloc (Nat.le_refl _) _).alloc (by simp) _).trans (hb1.mono (by simp; omega)), by have := hb1.size; simpa using this⟩
  have hlt : w.heap.size < w1.heap.size := by have := HB1.out.2; omega
  have hlt2 : w.heap.size + 1 < w1.heap.size := by have := HB1.out.2; omega
  have m0 : w1.cell? ⟨w.heap.size, 0, none⟩ = some (.int .u16 id) := (hb1.cell (p := ⟨w.heap.size, 0, none⟩) (by simp; omega)).trans (by simp)
  have g0 : w1.cell? ⟨w.heap.size + 1, 0, none⟩ = some (.int .i64 c0) := (hb1.cell (p := ⟨w.heap.size + 1, 0, none⟩) (by simp)).trans (by simp)
  have g1 : w1.cell? ⟨w.heap.size + 1, 1, none⟩ = some (.int .i64 c1) := (hb1.cell (p := ⟨w.heap.size + 1, 1, none⟩) (by simp)).trans (by simp)
  have g2 : w1.cell? ⟨w.heap.size + 1, 2, none⟩ = some (.int .i64 c2) := (hb1.cell (p := ⟨w.heap.size + 1, 2, none⟩) (by simp)).trans (by simp)
  have g3 : w1.cell? ⟨w.heap.size + 1, 3, none⟩ = some (.int .i64 c3) := (hb1.cell (p := ⟨w.heap.size + 1, 3, none⟩) (by simp)).trans (by simp)
  clear hb1
  go_wp2_with fail
  refine (together_any id F c0 c1 c2 c3 _).mono ?_
  rintro e w2 ⟨rfl, hb2⟩
  have HS2 : Hid (Own w1.heap.size w2 (.slice (some ⟨w1.heap.size, 0, none⟩) 0 12) 0 (List.replicate 12 0) ∧ Below w.heap.size w w2 ∧ w.heap.size ≤ w1.heap.size ∧ w1.heap.size ≤ w2.heap.size) := ⟨(make12_own w1 _ (Nat.le_refl _)).below hb2, (HB1.out.1.alloc HB1.out.1.size _).trans (hb2.mono (by have := HB1.out.1.size; simp; omega)), HB1.out.1.size, by have := hb2.size; simp at this; omega⟩
  clear hb2 m0 g0 g1 g2 g3
  go_wp2_with fail
  go_loopw [8, 28] (fun v y wr => ∃ k : Nat, k ≤ 6 ∧ y = .int .i64 (k : Int) ∧ Hid (∃ zs, Own w1.heap.size wr v (2 * k) zs ∧ zs.length = 12 ∧ zs.take (2 * k) = b16s (ns.take k)) ∧ Hid (∀ m ∈ ns.take k, okN m) ∧ Hid (Below w.heap.size w wr ∧ w1.heap.size ≤ wr.heap.size)) (fun _ y _ => 6 - (intOf y).toNat)
  case atStart => exact ⟨0, by omega, rfl, ⟨_, HS2.out.1, by simp, rfl⟩, by intro m hm; simp at hm, HS2.out.2.1, HS2.out.2.2.2⟩
  case round =>
    obtain ⟨k, hk, rfl, HO, HK, HW⟩ := hrel
    by_cases hlt : k < 6
    · have hlt' : (k : Int) < 6 := by omega
      obtain ⟨m, hm, ix⟩ := IX k hlt
      have HM : Hid (ns[k]? = some m) := hm
      clear hm
      by_cases hok : okN m
      · obtain ⟨zs, hO, hZ, hT⟩ := HO.out
        have hnb : Below wr.heap.size wr (wr.alloc (.cells #[.int .u8 (m / 256), .int .u8 (m % 256)] 5)) := (Below.refl _ _).alloc (Nat.le_refl _) _
        have HO2 : Hid (Own w1.heap.size (wr.alloc (.cells #[.int .u8 (m / 256), .int .u8 (m % 256)] 5)) u8 (2 * k) zs) := hO.below hnb
        have HR2 : Hid (Rd (wr.alloc (.cells #[.int .u8 (m / 256), .int .u8 (m % 256)] 5)) (some ⟨wr.heap.size, 0, none⟩) [m / 256, m % 256]) := two_rd wr m hok
        have HB2 : Hid (Below w.heap.size w (wr.alloc (.cells #[.int .u8 (m / 256), .int .u8 (m % 256)] 5)) ∧ w1.heap.size ≤ (wr.alloc (.cells #[.int .u8 (m / 256), .int .u8 (m % 256)] 5)).heap.size) := ⟨HW.out.1.trans (hnb.mono HW.out.1.size), by have := HW.out.2; simp; omega⟩
        have HT : Hid (zs.length = 12 ∧ zs.take (2 * k) = b16s (ns.take k)) := ⟨hZ, hT⟩
        have HKK : Hid (okN m) := hok
        have h0 := hok.1
        have h1 := hok.2
        clear hO hZ hT hok hnb
        go_wp2_with fail
        refine (put16_yes m _ h0 h1).mono ?_
        rintro e w3 ⟨rfl, rfl⟩
        go_wp2_with (at_builtin; refine wpList_append_fitB _ rfl _ _ rfl w1.heap.size _ (2 * k) zs rfl HO2.out (some ⟨wr.heap.size, 0, none⟩) 2 2 [m / 256, m % 256] rfl HR2.out rfl (by omega) HB2.out.2 ?_; intro v' w' ys' hO' hT' hG' hF'; have HB3 : Hid (Below w.heap.size w w' ∧ w1.heap.size ≤ w'.heap.size) := ⟨HB2.out.1.grown hG' HB2.out.1.size (fun g hg => Nat.le_trans HS2.out.2.2.1 (HO2.out.lt g hg)), Nat.le_trans HB2.out.2 hG'.size⟩; clear hG')
        refine ⟨⟨k + 1, by omega, by go_num, ⟨ys', ?_, ?_, ?_⟩, ?_, HB3.out⟩, by simp [intOf]; omega⟩
        · have := hO'.out
          rw [show 2 * (k + 1) = 2 * k + 2 by omega]; exact this
        · rw [hF'.out (by rw [HT.out.1]; omega), HT.out.1]
        · rw [b16s_take ns k m HM.out, ← HT.out.2, ← hT'.out]; rfl
        · intro x hx
          rw [List.take_add_one, HM.out] at hx
          rcases List.mem_append.1 hx with hx | hx
          · exact HK.out x hx
          · simp at hx; subst hx; exact HKK.out
      · have HNK : Hid (¬ ∀ x ∈ ns, okN x) := fun h => hok (h m (List.mem_of_getElem? HM.out))
        have hno : m < 0 ∨ (0 ≤ m ∧ 65535 < m) := by unfold okN at hok; omega
        have HNO : Hid (m < 0 ∨ (0 ≤ m ∧ 65535 < m)) := hno
        clear hno hok
        go_wp2_with fail
        refine (put16_no m _ HNO.out).mono ?_
        rintro e w3 ⟨rfl, rfl⟩
        go_wp2
        go_ret2
        exact ⟨fun h => absurd h HNK.out, fun _ => rfl, HW.out.1⟩
    · obtain rfl : k = 6 := by omega
      obtain ⟨zs, hO, hZ, hT⟩ := HO.out
      have e6 : ns.take 6 = ns := List.take_of_length_le (by rw [HNL.out]; exact Nat.le_refl _)
      rw [e6] at hT
      have HK6 : Hid (∀ x ∈ ns, okN x) := by have := HK.out; rw [e6] at this; exact this
      have hz : zs = b16s ns := by rw [← hT]; exact (List.take_of_length_le (by rw [hZ]; exact Nat.le_refl _)).symm
      subst hz
      rcases hO with ⟨_, h, _⟩ | ⟨g, hv, hg, hblk, _, _⟩
      · omega
      · rw [hZ] at hv
        subst hv
        have HG : Hid (w.heap.size ≤ g ∧ Blk wr g (b16s ns)) := ⟨Nat.le_trans HS2.out.2.2.1 hg, hblk⟩
        clear hblk hg hT e6 hZ
        go_wp2
        go_ret2
        exact ⟨fun _ => ⟨g, rfl, HG.out.1, HG.out.2⟩, fun h => absurd HK6.out h, HW.out.1⟩
end Go.Proofs.YtkjnbgekaifdfaaGreat
namespace Go.Proofs.YtkjnbgekaifdfaaGreat
open Go.ChangeShapes Go.WideShapes Go.ChangeAt Go.RowKit
set_option linter.unusedVariables false
set_option linter.unusedSimpArgs false
/-- The j-th number of two bytes. -/
def nv (zs : List Int) (j : Nat) : Nat := (val ((zs.drop (2 * j)).take 2)).toNat
def zeroM : Array Value := #[.int .u16 0, .bool false, .int .i64 0, .bool false, .bool false, .bool false, .bool false, .bool false, .bool false, .int .i64 0, .slice none 0 0, .slice none 0 0, .slice none 0 0, .slice none 0 0]
end Go.Proofs.YtkjnbgekaifdfaaGreat
