/- Texts laid together, in parts: Pq Pi Pj Pk Pl Pm Pn Ya Wd Kd Aw Zo Ma Nab Nad Ppa Ppb Ppc Ppf Pph Ppi Rk Nwd Cw Ed Ee Ea Shp Ec Ef. -/
import Derived.Test.YtoppdmlmhigogaaDoorWtb
import Derived.Deep.RegionHeld3
import Derived.Laws.AppendOwn
import Derived.Laws.OwnMore
import Derived.Deep.AppendLies
import Derived.Deep.CutBlock
import Derived.WalkMore
import Derived.Shelf.Strings.Trim
import Derived.Test.YtoppdmlmhigogaaDoorProg
import Derived.Deep.QuietTactic
import Derived.Shelf.Strings.SlTrimAscii
import Derived.Maps.OwnSet
import Derived.Carry
import Derived.Shelf.Strings.Prefix
namespace Go.Proofs.YtoppdmlmhigogaaDoor
open Go.ChangeShapes Go.WideShapes Go.ChangeAt Go.RowKit
set_option linter.unusedVariables false
set_option linter.unusedSimpArgs false
theorem xq_snoc (l : List Int) (c : Int) : xq (l ++ [c]) = xq l ++ xq1 c := by simp [xq]
theorem xq1_len (c : Int) : (xq1 c).length ≤ 4 := by unfold xq1; split <;> (try split) <;> simp
theorem xq_len (l : List Int) : (xq l).length ≤ 4 * l.length := by
  induction l with
  | nil => simp [xq]
  | cons c l ih =>
    have := xq1_len c
    simp only [xq, List.flatMap_cons, List.length_append, List.length_cons] at ih ⊢
    omega
/-- What was written so far. -/
def qs (l : List Int) : List Value := (34 :: xq l).map (Value.int .u8)
set_option maxRecDepth 100000 in
set_option maxHeartbeats 2000000 in
theorem quote_any (s : ByteArray) (w : World) (hs : s.size ≤ 35184372088000) :
    Calls Tryd.prog 72 #[.string s] w fun e w' => e = .returned (.string (xqw s)) ∧ Hid (Below w.heap.size w w') := by
  have H0 : Hid (GS w.heap.size (w.alloc (.cells #[.pointer none, .slice none 0 0] 46)) w.heap.size [] ∧ Below w.heap.size w (w.alloc (.cells #[.pointer none, .slice none 0 0] 46))) := ⟨GS.fresh w, (Below.refl _ _).alloc (Nat.le_refl _) _⟩
  go_enter Tryd.func72, Tryd.ntmps72
  go_wp2_with fail
  refine (wbyte w.heap.size w.heap.size _ 34 _ H0.out.1 (Nat.le_refl _) (by simp)).mono ?_
  rintro e w1 ⟨rfl, H1⟩
  have HX : Hid (GS w.heap.size w1 w.heap.size (qs []) ∧ Below w.heap.size w w1) := ⟨H1.out.1, H0.out.2.trans H1.out.2⟩
  clear H0 H1
  go_wp2_with fail
  go_loopw [9] (fun x wr => ∃ k : Nat, k ≤ s.size ∧ x = .int .i64 k ∧ Hid (GS w.heap.size wr w.heap.size (qs ((nums s).take k)) ∧ Below w.heap.size w wr)) (fun x _ => s.size - (intOf x).toNat)
  case atStart => exact ⟨0, Nat.zero_le _, rfl, HX⟩
  case round =>
    obtain ⟨k, hk, rfl, HW⟩ := hrel
    clear HX
    by_cases hlt : k < s.size
    · have hlt' : (k : Int) < (s.size : Int) := by omega
      have hbd := nums_bd s k
      have HT : Hid ((nums s).take (k + 1) = (nums s).take k ++ [(nums s).getD k 0]) := take_snoc _ _ (by rw [nums_len]; exact hlt)
      rw [nums_at s k hlt] at hbd HT
      have HM : Hid ((qs ((nums s).take k)).length ≤ 4 * k + 1) := by
        have h1 := xq_len ((nums s).take k)
        have h2 : ((nums s).take k).length ≤ k := by simp; omega
        show _ ≤ _
        simp only [qs, List.length_map, List.length_cons]
        omega
      have HN : Hid (qs ((nums s).take (k + 1)) = qs ((nums s).take k) ++ (xq1 (s[k].toNat : Int)).map (Value.int .u8)) := by show _ = _; rw [HT.out]; simp only [qs, xq_snoc, List.map_cons, List.map_append, List.cons_append]
      by_cases hq : (s[k].toNat : Int) = 34 ∨ (s[k].toNat : Int) = 92
      · have HX : Hid (xq1 (s[k].toNat : Int) = [92, (s[k].toNat : Int)]) := by show _ = _; unfold xq1; rw [if_neg (by omega), if_pos hq]
        have go : ∀ wr', wr' = wr → Hid (GS w.heap.size wr' w.heap.size (qs ((nums s).take k)) ∧ Below w.heap.size w wr') := by rintro _ rfl; exact HW
        clear go
        rcases hq with hq | hq
        all_goals
          rw [hq] at HX HN
          go_wp2_with fail
          refine (wbyte w.heap.size w.heap.size _ 92 _ HW.out.1 (Nat.le_refl _) (by have := HM.out; omega)).mono ?_
          rintro e w2 ⟨rfl, H2⟩
          go_wp2_with fail
          refine (wbyte w.heap.size w.heap.size _ _ _ H2.out.1 (Nat.le_refl _) (by have := HM.out; simp only [List.length_append, List.length_singleton]; omega)).mono ?_
          rintro e w3 ⟨rfl, H3⟩
          go_wp2
          refine ⟨⟨k + 1, by omega, by go_num, ?_, (HW.out.2.trans H2.out.2).trans H3.out.2⟩, by simp [intOf]; omega⟩
          rw [HN.out, HX.out]
          simpa only [List.map_cons, List.map_nil, List.append_assoc, List.cons_append, List.nil_append] using H3.out.1
      · have hq1 : ((s[k].toNat : Int) == 34) = false := by rw [beq_eq_false_iff_ne]; omega
        have hq2 : ((s[k].toNat : Int) == 92) = false := by rw [beq_eq_false_iff_ne]; omega
        by_cases hu : (s[k].toNat : Int) < 32 ∨ 126 < (s[k].toNat : Int)
        · have HX : Hid (xq1 (s[k].toNat : Int) = [92, 48 + (s[k].toNat : Int) / 100, 48 + (s[k].toNat : Int) / 10 % 10, 48 + (s[k].toNat : Int) % 10]) := by show _ = _; unfold xq1; rw [if_pos hu]
          clear hq
          rcases hu with hu | hu
          all_goals
            go_wp2_with fail
            refine (wbyte w.heap.size w.heap.size _ 92 _ HW.out.1 (Nat.le_refl _) (by have := HM.out; omega)).mono ?_
            rintro e w2 ⟨rfl, H2⟩
            go_wp2_with fail
            refine (wbyte w.heap.size w.heap.size _ _ _ H2.out.1 (Nat.le_refl _) (by have := HM.out; simp only [List.length_append, List.length_singleton]; omega)).mono ?_
            rintro e w3 ⟨rfl, H3⟩
            go_wp2_with fail
            refine (wbyte w.heap.size w.heap.size _ _ _ H3.out.1 (Nat.le_refl _) (by have := HM.out; simp only [List.length_append, List.length_singleton]; omega)).mono ?_
            rintro e w4 ⟨rfl, H4⟩
            go_wp2_with fail
            refine (wbyte w.heap.size w.heap.size _ _ _ H4.out.1 (Nat.le_refl _) (by have := HM.out; simp only [List.length_append, List.length_singleton]; omega)).mono ?_
            rintro e w5 ⟨rfl, H5⟩
            go_wp2
            refine ⟨⟨k + 1, by omega, by go_num, ?_, ((HW.out.2.trans H2.out.2).trans H3.out.2).trans (H4.out.2.trans H5.out.2)⟩, by simp [intOf]; omega⟩
            rw [HN.out, HX.out]
            simpa only [List.map_cons, List.map_nil, List.append_assoc, List.cons_append, List.nil_append] using H5.out.1
        · have HX : Hid (xq1 (s[k].toNat : Int) = [(s[k].toNat : Int)]) := by show _ = _; unfold xq1; rw [if_neg hu, if_neg hq]
          have hu1 : ¬ (s[k].toNat : Int) < 32 := by omega
          have hu2 : ¬ 126 < (s[k].toNat : Int) := by omega
          clear hu hq
          go_wp2_with fail
          refine (wbyte w.heap.size w.heap.size _ _ _ HW.out.1 (Nat.le_refl _) (by have := HM.out; omega)).mono ?_
          rintro e w2 ⟨rfl, H2⟩
          go_wp2
          refine ⟨⟨k + 1, by omega, by go_num, ?_, HW.out.2.trans H2.out.2⟩, by simp [intOf]; omega⟩
          rw [HN.out, HX.out]
          simpa only [List.map_cons, List.map_nil, List.append_assoc, List.cons_append, List.nil_append] using H2.out.1
    · have hge : (s.size : Int) ≤ (k : Int) := by omega
      have hge' : ¬ (k : Int) < (s.size : Int) := by omega
      have ek : (nums s).take k = nums s := List.take_of_length_le (by rw [nums_len]; omega)
      have HG : Hid (GS w.heap.size wr w.heap.size (qs (nums s))) := by have := HW.out.1; rw [ek] at this; exact this
      have hl := xq_len (nums s)
      rw [nums_len] at hl
      have HQ : Hid (qs (nums s) ++ [.int .u8 34] = Lib.byteCells (txt (xquote (nums s)))) := by
        show _ = _
        rw [bc_txt _ (xquote_by _ (nums_all' s))]
        simp [qs, xquote]
      have hlq : (txt (xquote (nums s))).length ≤ 9223372036854775807 := by
        rw [txt_len]; simp only [xquote, List.length_cons, List.length_append, List.length_nil]; omega
      have HM : Hid ((qs (nums s)).length + 1 ≤ 140737488355328) := by show _ ≤ _; simp only [qs, List.length_map, List.length_cons]; omega
      clear ek hl
      generalize hLL : txt (xquote (nums s)) = L at *
      have HLL : Hid (txt (xquote (nums s)) = L) := hLL
      clear hLL
      go_wp2_with fail
      refine (wbyte w.heap.size w.heap.size _ 34 _ HG.out (Nat.le_refl _) HM.out).mono ?_
      rintro e w2 ⟨rfl, H2⟩
      have HG2 : Hid (GS w.heap.size w2 w.heap.size (Lib.byteCells L)) := by have := H2.out.1; rw [HQ.out] at this; exact this
      go_wp2_with fail
      refine (wstring w.heap.size w.heap.size L _ HG2.out hlq).mono ?_
      rintro e w3 ⟨rfl, H3⟩
      go_wp2
      go_ret
      refine ⟨?_, (HW.out.2.trans H2.out.2).trans H3.out⟩
      unfold xqw lb
      rw [HLL.out]
      rfl
end Go.Proofs.YtoppdmlmhigogaaDoor
namespace Go.Proofs.YtoppdmlmhigogaaDoor
open Go.ChangeShapes Go.WideShapes Go.ChangeAt Go.RowKit
set_option linter.unusedVariables false
set_option linter.unusedSimpArgs false
/-- A list of texts of its own. -/
def TLPost (l : List ByteArray) (w : World) (e : Ending) (w' : World) : Prop :=
  ∃ v ys, e = .returned v ∧ Hid (OwnT w.heap.size w' v l.length ys 1000000 ∧ ys.take l.length = l ∧ Below w.heap.size w w')
theorem mapT_snoc {α : Type} (f : α → ByteArray) (l : List α) (k : Nat) (h : k < l.length) : (l.take (k + 1)).map f = (l.take k).map f ++ [f l[k]] := by
  rw [List.take_add_one, List.getElem?_eq_getElem h, Option.toList_some, List.map_append]; rfl
theorem ntext_size {n : List ByteArray} (h : nck n = 0) : (ntext n).1.size ≤ 1020 := by
  unfold ntext
  rw [if_pos h]
  split
  · show 1 ≤ 1020; omega
  · have h1 := ntxt_size n n.length (Nat.le_refl _)
    rw [List.take_length] at h1
    have h2 := (nck_small h).1
    simp only
    omega
theorem xnw_dec (u : Nat) : (⟨(Lib.decDigits u).toArray⟩ : ByteArray) = xnw u := dec_lb u
theorem xdec_len10 (n : Nat) (h : n < 4294967296) : (xdec n).length ≤ 10 := by
  have key : ∀ (k n : Nat), n < 10 ^ (k + 1) → (xdec n).length ≤ k + 1 := by
    intro k
    induction k with
    | zero => intro n hn; rw [xdec_small (by omega)]; simp
    | succ k ih =>
      intro n hn
      by_cases h : n < 10
      · rw [xdec_small h]; simp
      · rw [xdec_big h]
        have := ih (n / 10) (by rw [Nat.pow_succ] at hn; omega)
        simp; omega
  exact key 9 n (by omega)
theorem xqw_size (s : ByteArray) : (xqw s).size ≤ 4 * s.size + 2 := by
  have h := xq_len (nums s)
  have : (xqw s).size = (xquote (nums s)).length := by unfold xqw; rw [← nums_len, nums_lb _ (xquote_by _ (nums_all' s))]
  rw [nums_len] at h
  simp only [xquote, List.length_cons, List.length_append, List.length_nil] at this
  omega
set_option maxRecDepth 100000 in
set_option maxHeartbeats 2000000 in
theorem nameT_any (s : Sl) (xs : List (List ByteArray)) (w : World) (hr : NRd w s xs) (hp : ∀ n ∈ xs, nck n = 0) (hn : s.n ≤ 1000000) :
    Calls Tryd.prog 69 #[.slice s.a s.n s.c] w (TLPost (xs.map (fun n => (ntext n).1)) w) := by
  obtain ⟨a, n, c⟩ := s
  have HR : Hid (NRd w ⟨a, n, c⟩ xs) := hr
  have HLn : Hid (xs.length = n) := hr.len
  have HP : Hid (∀ n ∈ xs, nck n = 0) := hp
  simp only at hn ⊢
  clear hr hp
  go_enter Tryd.func69, Tryd.ntmps69
  go_wp2_with fail
  go_loopw [3, 10] (fun v x wr => ∃ k : Nat, k ≤ n ∧ x = .int .i64 k ∧ Hid (∃ ys, OwnT w.heap.size wr v k ys 1000000 ∧ ys.take k = (xs.take k).map (fun n => (ntext n).1)) ∧ Hid (Below w.heap.size w wr)) (fun _ x _ => n - (intOf x).toNat)
  case atStart => exact ⟨0, Nat.zero_le _, rfl, ⟨[], OwnT.nil _ _ _, rfl⟩, Below.refl _ _⟩
  case round =>
    obtain ⟨k, hk, rfl, HW, HB⟩ := hrel
    by_cases hlt : k < n
    · have hlt' : (k : Int) < (n : Int) := by omega
      have hkz : k < xs.length := by rw [HLn.out]; exact hlt
      have HT : Hid ((xs.take (k + 1)).map (fun n => (ntext n).1) = (xs.take k).map (fun n => (ntext n).1) ++ [(ntext xs[k]).1]) := mapT_snoc _ xs k hkz
      obtain ⟨b, o, hbo, hb, x, hc, hx⟩ := (HR.out.below HB.out).at k hkz
      simp only at hbo
      subst hbo
      have hck := HP.out _ (List.getElem_mem hkz)
      have hsz : (ntext xs[k]).1.size ≤ 1000000 := by have := ntext_size hck; omega
      have K := Lib.hid (ptext_any x.a x.n x.c xs[k] wr ⟨hx.rd, hx.len, by have := (nck_small hck).1; omega⟩)
      generalize (ntext xs[k]).2 = q at *
      generalize (ntext xs[k]).1 = f at *
      clear hx hck
      go_wp2_with fail
      refine K.out.mono ?_
      rintro e w2 ⟨rfl, H2⟩
      obtain ⟨ys, hO, hT⟩ := HW.out
      have hnb : Below w2.heap.size w2 (w2.alloc (.cells #[.string f] 9)) := (Below.refl _ _).alloc (Nat.le_refl _) _
      have HO2 : Hid (OwnT w.heap.size (w2.alloc (.cells #[.string f] 9)) u3 k ys 1000000 ∧ ys.take k = (xs.take k).map (fun n => (ntext n).1)) := ⟨(hO.below H2.out).below hnb, hT⟩
      have HNB : Hid (Below w2.heap.size w2 (w2.alloc (.cells #[.string f] 9))) := hnb
      have HB3 : Hid (Below w.heap.size w w2) := HB.out.trans (H2.out.mono HB.out.size)
      clear hO hT hnb HW H2 HB
      go_wp2_with (at_builtin; refine wpList_append_T tyT _ rfl _ _ 25 9 Tryd.underlying25 rfl w.heap.size _ k ys 1000000 rfl HO2.out.1 (some ⟨w2.heap.size, 0, none⟩) 1 1 [f] rfl (one_rdT w2 f) rfl (by intro s hs; simp at hs; subst hs; exact hsz) (by omega) (Nat.le_trans HB3.out.size HNB.out.size) ?_; intro v' w' ys' hO' hT' hG')
      have hrow := HO2.out.1.1.lt
      refine ⟨⟨k + 1, by omega, by go_num, ⟨ys', hO'.out, ?_⟩, ?_⟩, by simp [intOf]; omega⟩
      · rw [hT'.out, HO2.out.2, HT.out]
      · exact (HB3.out.trans (HNB.out.mono HB3.out.size)).grown hG' (Nat.le_trans HB3.out.size HNB.out.size) hrow
    · have hge : ¬ (k : Int) < (n : Int) := by omega
      have hkn : k = n := by omega
      subst hkn
      go_wp2_with fail
      go_ret
      obtain ⟨ys, hO, hT⟩ := HW.out
      have hx : xs.take k = xs := List.take_of_length_le (by rw [HLn.out]; exact Nat.le_refl _)
      rw [hx] at hT
      have hl : (xs.map (fun n => (ntext n).1)).length = k := by rw [List.length_map, HLn.out]
      rw [← hl] at hO hT
      exact ⟨_, ys, rfl, hO, hT, HB.out⟩
set_option maxRecDepth 100000 in
set_option maxHeartbeats 2000000 in
theorem numT_any (s : Sl) (xs : List (Nat)) (w : World) (hr : URd w s xs)  (hn : s.n ≤ 1000000) (hL : LayT w) :
    Calls Tryd.prog 70 #[.slice s.a s.n s.c] w (TLPost (xs.map xnw) w) := by
  obtain ⟨a, n, c⟩ := s
  have HR : Hid (URd w ⟨a, n, c⟩ xs) := hr
  have HLn : Hid (xs.length = n) := hr.len
  have HL : Hid (LayT w) := hL
  simp only at hn ⊢
  clear hr hL
  go_enter Tryd.func70, Tryd.ntmps70
  go_wp2_with fail
  go_loopw [3, 8] (fun v x wr => ∃ k : Nat, k ≤ n ∧ x = .int .i64 k ∧ Hid (∃ ys, OwnT w.heap.size wr v k ys 1000000 ∧ ys.take k = (xs.take k).map xnw) ∧ Hid (Below w.heap.size w wr)) (fun _ x _ => n - (intOf x).toNat)
  case atStart => exact ⟨0, Nat.zero_le _, rfl, ⟨[], OwnT.nil _ _ _, rfl⟩, Below.refl _ _⟩
  case round =>
    obtain ⟨k, hk, rfl, HW, HB⟩ := hrel
    by_cases hlt : k < n
    · have hlt' : (k : Int) < (n : Int) := by omega
      have hkz : k < xs.length := by rw [HLn.out]; exact hlt
      have HT : Hid ((xs.take (k + 1)).map xnw = (xs.take k).map xnw ++ [(xnw) xs[k]]) := mapT_snoc _ xs k hkz
      obtain ⟨b, o, hbo, hb, hc⟩ := (HR.out.below HB.out).at k hkz
      simp only at hbo
      subst hbo
      have hu := HR.out.bd _ (List.getElem_mem hkz)
      generalize xs[k] = u at *
      have hsz : (xnw u).size ≤ 1000000 := by have := xdec_len10 u (by omega); rw [← nums_len, xnw_nums]; omega
      have K := Lib.hid (fun W hW => fmt10 u (by omega) W hW)
      rw [xnw_dec u] at K
      generalize xnw u = f at *
      have hu' : (u : Int) ≤ 4294967295 := by omega
      go_wp2_with fail
      refine (K.out _ (HL.out.below HB.out)).mono ?_
      rintro e w2 ⟨rfl, H2⟩
      obtain ⟨ys, hO, hT⟩ := HW.out
      have hnb : Below w2.heap.size w2 (w2.alloc (.cells #[.string f] 9)) := (Below.refl _ _).alloc (Nat.le_refl _) _
      have HO2 : Hid (OwnT w.heap.size (w2.alloc (.cells #[.string f] 9)) u3 k ys 1000000 ∧ ys.take k = (xs.take k).map xnw) := ⟨(hO.below H2.out).below hnb, hT⟩
      have HNB : Hid (Below w2.heap.size w2 (w2.alloc (.cells #[.string f] 9))) := hnb
      have HB3 : Hid (Below w.heap.size w w2) := HB.out.trans (H2.out.mono HB.out.size)
      clear hO hT hnb HW H2 HB
      go_wp2_with (at_builtin; refine wpList_append_T tyT _ rfl _ _ 25 9 Tryd.underlying25 rfl w.heap.size _ k ys 1000000 rfl HO2.out.1 (some ⟨w2.heap.size, 0, none⟩) 1 1 [f] rfl (one_rdT w2 f) rfl (by intro s hs; simp at hs; subst hs; exact hsz) (by omega) (Nat.le_trans HB3.out.size HNB.out.size) ?_; intro v' w' ys' hO' hT' hG')
      have hrow := HO2.out.1.1.lt
      refine ⟨⟨k + 1, by omega, by go_num, ⟨ys', hO'.out, ?_⟩, ?_⟩, by simp [intOf]; omega⟩
      · rw [hT'.out, HO2.out.2, HT.out]
      · exact (HB3.out.trans (HNB.out.mono HB3.out.size)).grown hG' (Nat.le_trans HB3.out.size HNB.out.size) hrow
    · have hge : ¬ (k : Int) < (n : Int) := by omega
      have hkn : k = n := by omega
      subst hkn
      go_wp2_with fail
      go_ret
      obtain ⟨ys, hO, hT⟩ := HW.out
      have hx : xs.take k = xs := List.take_of_length_le (by rw [HLn.out]; exact Nat.le_refl _)
      rw [hx] at hT
      have hl : (xs.map xnw).length = k := by rw [List.length_map, HLn.out]
      rw [← hl] at hO hT
      exact ⟨_, ys, rfl, hO, hT, HB.out⟩
set_option maxRecDepth 100000 in
set_option maxHeartbeats 2000000 in
theorem quoT_any (s : Sl) (xs : List (ByteArray)) (w : World) (hr : TRd w s xs) (hp : ∀ t ∈ xs, t.size ≤ 200000) (hn : s.n ≤ 1000000) :
    Calls Tryd.prog 71 #[.slice s.a s.n s.c] w (TLPost (xs.map xqw) w) := by
  obtain ⟨a, n, c⟩ := s
  have HR : Hid (TRd w ⟨a, n, c⟩ xs) := hr
  have HLn : Hid (xs.length = n) := hr.len
  have HP : Hid (∀ t ∈ xs, t.size ≤ 200000) := hp
  simp only at hn ⊢
  clear hr hp
  go_enter Tryd.func71, Tryd.ntmps71
  go_wp2_with fail
  go_loopw [3, 8] (fun v x wr => ∃ k : Nat, k ≤ n ∧ x = .int .i64 k ∧ Hid (∃ ys, OwnT w.heap.size wr v k ys 1000000 ∧ ys.take k = (xs.take k).map xqw) ∧ Hid (Below w.heap.size w wr)) (fun _ x _ => n - (intOf x).toNat)
  case atStart => exact ⟨0, Nat.zero_le _, rfl, ⟨[], OwnT.nil _ _ _, rfl⟩, Below.refl _ _⟩
  case round =>
    obtain ⟨k, hk, rfl, HW, HB⟩ := hrel
    by_cases hlt : k < n
    · have hlt' : (k : Int) < (n : Int) := by omega
      have hkz : k < xs.length := by rw [HLn.out]; exact hlt
      have HT : Hid ((xs.take (k + 1)).map xqw = (xs.take k).map xqw ++ [(xqw) xs[k]]) := mapT_snoc _ xs k hkz
      obtain ⟨b, o, hbo, hb, hc⟩ := (HR.out.below HB.out).rd.at k hkz
      simp only at hbo
      subst hbo
      have hp := HP.out _ (List.getElem_mem hkz)
      generalize xs[k] = u at *
      have hsz : (xqw u).size ≤ 1000000 := by have := xqw_size u; omega
      have K := Lib.hid (quote_any u wr (by omega))
      generalize xqw u = f at *
      go_wp2_with fail
      refine K.out.mono ?_
      rintro e w2 ⟨rfl, H2⟩
      obtain ⟨ys, hO, hT⟩ := HW.out
      have hnb : Below w2.heap.size w2 (w2.alloc (.cells #[.string f] 9)) := (Below.refl _ _).alloc (Nat.le_refl _) _
      have HO2 : Hid (OwnT w.heap.size (w2.alloc (.cells #[.string f] 9)) u3 k ys 1000000 ∧ ys.take k = (xs.take k).map xqw) := ⟨(hO.below H2.out).below hnb, hT⟩
      have HNB : Hid (Below w2.heap.size w2 (w2.alloc (.cells #[.string f] 9))) := hnb
      have HB3 : Hid (Below w.heap.size w w2) := HB.out.trans (H2.out.mono HB.out.size)
      clear hO hT hnb HW H2 HB
      go_wp2_with (at_builtin; refine wpList_append_T tyT _ rfl _ _ 25 9 Tryd.underlying25 rfl w.heap.size _ k ys 1000000 rfl HO2.out.1 (some ⟨w2.heap.size, 0, none⟩) 1 1 [f] rfl (one_rdT w2 f) rfl (by intro s hs; simp at hs; subst hs; exact hsz) (by omega) (Nat.le_trans HB3.out.size HNB.out.size) ?_; intro v' w' ys' hO' hT' hG')
      have hrow := HO2.out.1.1.lt
      refine ⟨⟨k + 1, by omega, by go_num, ⟨ys', hO'.out, ?_⟩, ?_⟩, by simp [intOf]; omega⟩
      · rw [hT'.out, HO2.out.2, HT.out]
      · exact (HB3.out.trans (HNB.out.mono HB3.out.size)).grown hG' (Nat.le_trans HB3.out.size HNB.out.size) hrow
    · have hge : ¬ (k : Int) < (n : Int) := by omega
      have hkn : k = n := by omega
      subst hkn
      go_wp2_with fail
      go_ret
      obtain ⟨ys, hO, hT⟩ := HW.out
      have hx : xs.take k = xs := List.take_of_length_le (by rw [HLn.out]; exact Nat.le_refl _)
      rw [hx] at hT
      have hl : (xs.map xqw).length = k := by rw [List.length_map, HLn.out]
      rw [← hl] at hO hT
      exact ⟨_, ys, rfl, hO, hT, HB.out⟩
end Go.Proofs.YtoppdmlmhigogaaDoor
namespace Go.Proofs.YtoppdmlmhigogaaDoor
open Go.ChangeShapes Go.WideShapes Go.ChangeAt Go.RowKit
set_option linter.unusedVariables false
set_option linter.unusedSimpArgs false
theorem dg_hd (d : Int) (h : 0 ≤ d ∧ d < 16) : dg d = xhd d.toNat := by
  unfold dg xhd
  by_cases h1 : d < 10
  · rw [if_pos h1, if_pos (by omega)]; omega
  · rw [if_neg h1, if_neg (by omega)]; omega
theorem hexl_lb (zs : List Int) (h : ∀ z ∈ zs, 0 ≤ z ∧ z ≤ 255) : (⟨(hexl zs).toArray⟩ : ByteArray) = lb (xhexs zs) := by
  unfold lb
  congr 2
  unfold hexl txt xhexs
  induction zs with
  | nil => rfl
  | cons z zs ih =>
    have hz := h z (by simp)
    simp only [List.flatMap_cons, List.map_append, List.map_cons, List.map_nil]
    rw [ih (fun y hy => h y (List.mem_cons_of_mem _ hy)), dg_hd (z / 16) (by omega), dg_hd (z % 16) (by omega)]
    rfl
def hashW (raw : List Int) : List ByteArray := lb [92, 35] :: xnw raw.length :: (if raw = [] then [] else [lb (xhexs raw)])
theorem two_own (w : World) (a b : ByteArray) (ha : a.size ≤ 1000000) (hb : b.size ≤ 1000000) : OwnT w.heap.size (w.alloc (.cells #[.string a, .string b] 9)) (.slice (some ⟨w.heap.size, 0, none⟩) 2 2) 2 [a, b] 1000000 := by
  refine ⟨.inr ⟨w.heap.size, rfl, Nat.le_refl _, heap_alloc_new _ _, by simp [tv], by simp [tv, maxLen]⟩, ?_⟩
  intro s hs
  simp at hs
  rcases hs with rfl | rfl
  · exact ha
  · exact hb
theorem one_own (w : World) (a : ByteArray) (ha : a.size ≤ 1000000) : OwnT w.heap.size (w.alloc (.cells #[.string a] 9)) (.slice (some ⟨w.heap.size, 0, none⟩) 1 1) 1 [a] 1000000 := by
  refine ⟨.inr ⟨w.heap.size, rfl, Nat.le_refl _, heap_alloc_new _ _, by simp [tv], by simp [tv, maxLen]⟩, ?_⟩
  intro s hs
  simp at hs
  subst hs
  exact ha
set_option maxRecDepth 100000 in
set_option maxHeartbeats 2000000 in
theorem hashed_any (a : Option Addr) (n c : Nat) (zs : List Int) (w : World) (hr : Rd w a zs) (hl : zs.length = n) (hn : n ≤ 65535) (hL : LayT w) :
    Calls Tryd.prog 73 #[.slice a n c] w (TLPost (hashW zs) w) := by
  have HR : Hid (Rd w a zs) := hr
  have HLn : Hid (zs.length = n) := hl
  have K1 := Lib.hid (itoa_nat n (by omega) w hL)
  rw [xnw_dec n] at K1
  have hz1 : (xnw n).size ≤ 1000000 := by have := xdec_len10 n (by omega); rw [← nums_len, xnw_nums]; omega
  have HW0 : Hid (hashW zs = lb [92, 35] :: xnw n :: (if zs = [] then [] else [lb (xhexs zs)])) := by show _ = _; unfold hashW; rw [hl]
  have hz2 : (lb (xhexs zs)).size ≤ 1000000 := by
    have h1 := xhexs_len zs
    rw [← nums_len, nums_lb _ (fun c hc => by have := xhexs_by zs hr.2 c hc; omega)]
    omega
  have KX := Lib.hid (fun W (hW : Rd W a zs) => hex_any a n c zs W hW hl (by omega))
  rw [hexl_lb zs hr.2] at KX
  clear hr hL
  generalize xnw n = f1 at *
  generalize lb (xhexs zs) = f2 at *
  go_enter Tryd.func73, Tryd.ntmps73
  go_wp2_with fail
  refine K1.out.mono ?_
  rintro e w1 ⟨rfl, H1⟩
  have HO := Lib.hid (two_own w1 (lb [92, 35]) f1 (by decide) hz1)
  have HB1 : Hid (Below w.heap.size w (w1.alloc (.cells #[.string ⟨#[92, 35]⟩, .string f1] 9))) := H1.out.trans ((Below.refl _ _).alloc H1.out.size _)
  have hs1 := H1.out.size
  by_cases h0 : n = 0
  · subst h0
    have e0 : zs = [] := List.length_eq_zero_iff.1 HLn.out
    have HW1 : Hid (hashW zs = [lb [92, 35], f1]) := by show _ = _; rw [HW0.out, if_pos e0]
    clear K1 KX H1
    go_wp2_with fail
    go_ret
    rw [HW1.out]
    exact ⟨_, [lb [92, 35], f1], rfl, HO.out.mono hs1, rfl, HB1.out⟩
  · have h0' : (0 : Int) < (n : Int) := by omega
    have e0 : zs ≠ [] := by intro e; have := HLn.out; rw [e] at this; exact h0 this.symm
    have HW1 : Hid (hashW zs = [lb [92, 35], f1, f2]) := by show _ = _; rw [HW0.out, if_neg e0]
    have e92 : (lb [92, 35] : ByteArray) = ⟨#[92, 35]⟩ := rfl
    rw [e92] at HO
    have HLT : Hid (w1.heap.size ≤ (w1.alloc (.cells #[.string ⟨#[92, 35]⟩, .string f1] 9)).heap.size) := by show _ ≤ _; simp
    clear K1 H1 e0 h0
    go_wp2_with fail
    generalize (w1.alloc (.cells #[.string ⟨#[92, 35]⟩, .string f1] 9)) = w2 at *
    refine (KX.out _ (HR.out.below HB1.out)).mono ?_
    rintro e w3 ⟨rfl, H3⟩
    have hnb : Below w3.heap.size w3 (w3.alloc (.cells #[.string f2] 9)) := (Below.refl _ _).alloc (Nat.le_refl _) _
    have HO2 : Hid (OwnT w1.heap.size (w3.alloc (.cells #[.string f2] 9)) (.slice (some ⟨w1.heap.size, 0, none⟩) 2 2) 2 [⟨#[92, 35]⟩, f1] 1000000) := (HO.out.below H3.out).below hnb
    have HB3 : Hid (Below w.heap.size w (w3.alloc (.cells #[.string f2] 9))) := (HB1.out.trans (H3.out.mono HB1.out.size)).trans (hnb.mono (Nat.le_trans HB1.out.size H3.out.size))
    have HLE : Hid (w1.heap.size ≤ (w3.alloc (.cells #[.string f2] 9)).heap.size) := by
      show _ ≤ _
      have := H3.out.size
      have := HLT.out
      simp
      omega
    clear hnb HO H3 HB1 KX
    go_wp2_with (at_builtin; refine wpList_append_T tyT _ rfl _ _ 25 9 Tryd.underlying25 rfl w1.heap.size _ 2 [⟨#[92, 35]⟩, f1] 1000000 rfl HO2.out (some ⟨w3.heap.size, 0, none⟩) 1 1 [f2] rfl (one_rdT w3 f2) rfl (by intro s hs; simp at hs; subst hs; exact hz2) (by omega) HLE.out ?_; intro v' w' ys' hO' hT' hG')
    have hrow := HO2.out.1.lt
    go_ret
    rw [HW1.out]
    refine ⟨_, ys', rfl, hO'.out.mono hs1, hT'.out, ?_⟩
    exact HB3.out.grown hG' HB3.out.size (fun g hg => Nat.le_trans hs1 (hrow g hg))
end Go.Proofs.YtoppdmlmhigogaaDoor
namespace Go.Proofs.YtoppdmlmhigogaaDoor
open Go.ChangeShapes Go.WideShapes Go.ChangeAt Go.RowKit
set_option linter.unusedVariables false
set_option linter.unusedSimpArgs false
set_option maxRecDepth 100000 in
set_option maxHeartbeats 4000000 in
theorem tell_addr (t : Nat) (ht : t = 1 ∨ t = 28) (x : DA) (d : Dat) (w : World) (h : DRd w x d) (hr : d.raw.length = 4 ∨ d.raw.length = 16) (hL : LayT w) :
    Calls Tryd.prog 54 #[.int .u16 t, .agg #[.slice x.p1.a x.p1.n x.p1.c, .slice x.p2.a x.p2.n x.p2.c, .slice x.p3.a x.p3.n x.p3.c, .slice x.p4.a x.p4.n x.p4.c]] w (TLPost ([lb ((xaddr d.raw).getD [])]) w) := by
  obtain ⟨⟨a1, n1, k1⟩, ⟨a2, n2, k2⟩, ⟨a3, n3, k3⟩, ⟨a4, n4, k4⟩⟩ := x
  have hb0 : Below w.heap.size w (w.alloc (.cells #[.slice a1 n1 k1, .slice a2 n2 k2, .slice a3 n3 k3, .slice a4 n4 k4] 35)) := (Below.refl _ _).alloc (Nat.le_refl _) _
  have H : Hid (DBox (w.alloc (.cells #[.slice a1 n1 k1, .slice a2 n2 k2, .slice a3 n3 k3, .slice a4 n4 k4] 35)) w.heap.size ⟨⟨a1, n1, k1⟩, ⟨a2, n2, k2⟩, ⟨a3, n3, k3⟩, ⟨a4, n4, k4⟩⟩ ∧ DRd (w.alloc (.cells #[.slice a1 n1 k1, .slice a2 n2 k2, .slice a3 n3 k3, .slice a4 n4 k4] 35)) ⟨⟨a1, n1, k1⟩, ⟨a2, n2, k2⟩, ⟨a3, n3, k3⟩, ⟨a4, n4, k4⟩⟩ d ∧ Below w.heap.size w (w.alloc (.cells #[.slice a1 n1 k1, .slice a2 n2 k2, .slice a3 n3 k3, .slice a4 n4 k4] 35)) ∧ LayT (w.alloc (.cells #[.slice a1 n1 k1, .slice a2 n2 k2, .slice a3 n3 k3, .slice a4 n4 k4] 35))) := ⟨DBox.new w ⟨⟨a1, n1, k1⟩, ⟨a2, n2, k2⟩, ⟨a3, n3, k3⟩, ⟨a4, n4, k4⟩⟩, h.below hb0, hb0, hL.below hb0⟩
  clear h hL hb0
  simp only
  have hr4 : n4 = 4 ∨ n4 = 16 := by have := H.out.2.1.h4.len; simp only at this; rw [← this]; exact hr
  have hsz : (lb ((xaddr d.raw).getD [])).size ≤ 1000000 := by
    obtain ⟨s, hs⟩ := xaddr_some d.raw hr
    rw [hs, Option.getD_some, ← nums_len, (addr_term s (xaddr_ok _ _ hs)).1]
    unfold xaddr at hs
    have hbz := H.out.2.1.h4.rd.2
    split at hs
    · injection hs with hs; subst hs
      have := xjoin_len 46 (d.raw.map fun c => xdec c.toNat) 3 (by
        intro p hp
        obtain ⟨z, hz, rfl⟩ := List.mem_map.1 hp
        have := hbz z hz
        exact xdec_le _ (by omega))
      rw [List.length_map] at this
      omega
    · split at hs
      · next h16 =>
        injection hs with hs; subst hs
        obtain ⟨i1, i2, i3⟩ := xprs_by d.raw 8 (by omega) hbz
        have hc : ∀ l : List Nat, l.length ≤ 8 → (∀ n ∈ l, n < 65536) → (xcol l).length ≤ 40 := by
          intro l h1 h2
          have := xjoin_len 58 (l.map xhex) 4 (by
            intro p hp
            obtain ⟨z, hz, rfl⟩ := List.mem_map.1 hp
            exact (xhex_len _ (h2 z hz)).2)
          rw [List.length_map] at this
          unfold xcol; omega
        unfold xa6
        split
        · have := hc _ (by omega) i3; omega
        · have h1 := hc ((xprs d.raw).take (xlong (xprs d.raw)).1) (by simp; omega) (fun n hn => i3 n (List.mem_of_mem_take hn))
          have h2 := hc ((xprs d.raw).drop ((xlong (xprs d.raw)).1 + (xlong (xprs d.raw)).2)) (by simp; omega) (fun n hn => i3 n (List.mem_of_mem_drop hn))
          simp only [List.length_append, List.length_cons]
          omega
      · cases hs
  have K := Lib.hid (fun W (hd : DRd W ⟨⟨a1, n1, k1⟩, ⟨a2, n2, k2⟩, ⟨a3, n3, k3⟩, ⟨a4, n4, k4⟩⟩ d) (hW : LayT W) => atext_any a4 n4 k4 d.raw W hd.h4.rd hd.h4.len hr4 hW)
  clear hr hr4
  obtain ⟨f, hf⟩ : ∃ f, lb ((xaddr d.raw).getD []) = f := ⟨_, rfl⟩
  rw [hf] at K hsz ⊢
  clear hf
  rcases ht with rfl | rfl
  all_goals
    go_enter Tryd.func54, Tryd.ntmps54
    have d0 := H.out.1.1
    have d1 := H.out.1.2.1
    have d2 := H.out.1.2.2.1
    have d3 := H.out.1.2.2.2.1
    simp only at d0 d1 d2 d3
    go_wp2_with fail
    refine (K.out _ H.out.2.1 H.out.2.2.2).mono ?_
    rintro e w2 ⟨rfl, H2⟩
    have HB2 := Lib.hid (H.out.2.2.1.trans (H2.out.mono H.out.2.2.1.size))
    have HO := Lib.hid (one_own w2 f hsz)
    go_wp2_with fail
    go_ret
    exact ⟨_, [f], rfl, HO.out.mono HB2.out.size, rfl, HB2.out.trans ((Below.refl _ _).alloc HB2.out.size _)⟩
set_option maxRecDepth 100000 in
set_option maxHeartbeats 4000000 in
theorem tell_names (t : Nat) (ht : t = 2 ∨ t = 5 ∨ t = 12) (x : DA) (d : Dat) (w : World) (h : DRd w x d) (hp : ∀ n ∈ d.ns, nck n = 0) (hn : d.ns.length ≤ 1000) (hL : LayT w) :
    Calls Tryd.prog 54 #[.int .u16 t, .agg #[.slice x.p1.a x.p1.n x.p1.c, .slice x.p2.a x.p2.n x.p2.c, .slice x.p3.a x.p3.n x.p3.c, .slice x.p4.a x.p4.n x.p4.c]] w (TLPost (d.ns.map (fun n => (ntext n).1)) w) := by
  obtain ⟨⟨a1, n1, k1⟩, ⟨a2, n2, k2⟩, ⟨a3, n3, k3⟩, ⟨a4, n4, k4⟩⟩ := x
  have hb0 : Below w.heap.size w (w.alloc (.cells #[.slice a1 n1 k1, .slice a2 n2 k2, .slice a3 n3 k3, .slice a4 n4 k4] 35)) := (Below.refl _ _).alloc (Nat.le_refl _) _
  have H : Hid (DBox (w.alloc (.cells #[.slice a1 n1 k1, .slice a2 n2 k2, .slice a3 n3 k3, .slice a4 n4 k4] 35)) w.heap.size ⟨⟨a1, n1, k1⟩, ⟨a2, n2, k2⟩, ⟨a3, n3, k3⟩, ⟨a4, n4, k4⟩⟩ ∧ DRd (w.alloc (.cells #[.slice a1 n1 k1, .slice a2 n2 k2, .slice a3 n3 k3, .slice a4 n4 k4] 35)) ⟨⟨a1, n1, k1⟩, ⟨a2, n2, k2⟩, ⟨a3, n3, k3⟩, ⟨a4, n4, k4⟩⟩ d ∧ Below w.heap.size w (w.alloc (.cells #[.slice a1 n1 k1, .slice a2 n2 k2, .slice a3 n3 k3, .slice a4 n4 k4] 35)) ∧ LayT (w.alloc (.cells #[.slice a1 n1 k1, .slice a2 n2 k2, .slice a3 n3 k3, .slice a4 n4 k4] 35))) := ⟨DBox.new w ⟨⟨a1, n1, k1⟩, ⟨a2, n2, k2⟩, ⟨a3, n3, k3⟩, ⟨a4, n4, k4⟩⟩, h.below hb0, hb0, hL.below hb0⟩
  clear h hL hb0
  simp only
  have hn1 : n1 ≤ 1000000 := by have := H.out.2.1.h1.len; simp only at this; omega
  have K := Lib.hid (fun W (hd : DRd W ⟨⟨a1, n1, k1⟩, ⟨a2, n2, k2⟩, ⟨a3, n3, k3⟩, ⟨a4, n4, k4⟩⟩ d) => nameT_any ⟨a1, n1, k1⟩ d.ns W hd.h1 hp hn1)
  clear hp hn
  rcases ht with rfl | rfl | rfl
  all_goals
    go_enter Tryd.func54, Tryd.ntmps54
    have d0 := H.out.1.1
    have d1 := H.out.1.2.1
    have d2 := H.out.1.2.2.1
    have d3 := H.out.1.2.2.2.1
    simp only at d0 d1 d2 d3
    go_wp2_with fail
    refine (K.out _ H.out.2.1).mono ?_
    rintro e w2 ⟨v, ys, rfl, H2⟩
    have HB2 := Lib.hid (H.out.2.2.1.trans (H2.out.2.2.mono H.out.2.2.1.size))
    go_wp2_with fail
    go_ret
    exact ⟨_, ys, rfl, H2.out.1.mono H.out.2.2.1.size, H2.out.2.1, HB2.out⟩
set_option maxRecDepth 100000 in
set_option maxHeartbeats 4000000 in
theorem tell_txt (t : Nat) (ht : t = 16) (x : DA) (d : Dat) (w : World) (h : DRd w x d) (hp : ∀ s ∈ d.ts, s.size ≤ 200000) (hn : d.ts.length ≤ 1000000) (hL : LayT w) :
    Calls Tryd.prog 54 #[.int .u16 t, .agg #[.slice x.p1.a x.p1.n x.p1.c, .slice x.p2.a x.p2.n x.p2.c, .slice x.p3.a x.p3.n x.p3.c, .slice x.p4.a x.p4.n x.p4.c]] w (TLPost (d.ts.map xqw) w) := by
  obtain ⟨⟨a1, n1, k1⟩, ⟨a2, n2, k2⟩, ⟨a3, n3, k3⟩, ⟨a4, n4, k4⟩⟩ := x
  have hb0 : Below w.heap.size w (w.alloc (.cells #[.slice a1 n1 k1, .slice a2 n2 k2, .slice a3 n3 k3, .slice a4 n4 k4] 35)) := (Below.refl _ _).alloc (Nat.le_refl _) _
  have H : Hid (DBox (w.alloc (.cells #[.slice a1 n1 k1, .slice a2 n2 k2, .slice a3 n3 k3, .slice a4 n4 k4] 35)) w.heap.size ⟨⟨a1, n1, k1⟩, ⟨a2, n2, k2⟩, ⟨a3, n3, k3⟩, ⟨a4, n4, k4⟩⟩ ∧ DRd (w.alloc (.cells #[.slice a1 n1 k1, .slice a2 n2 k2, .slice a3 n3 k3, .slice a4 n4 k4] 35)) ⟨⟨a1, n1, k1⟩, ⟨a2, n2, k2⟩, ⟨a3, n3, k3⟩, ⟨a4, n4, k4⟩⟩ d ∧ Below w.heap.size w (w.alloc (.cells #[.slice a1 n1 k1, .slice a2 n2 k2, .slice a3 n3 k3, .slice a4 n4 k4] 35)) ∧ LayT (w.alloc (.cells #[.slice a1 n1 k1, .slice a2 n2 k2, .slice a3 n3 k3, .slice a4 n4 k4] 35))) := ⟨DBox.new w ⟨⟨a1, n1, k1⟩, ⟨a2, n2, k2⟩, ⟨a3, n3, k3⟩, ⟨a4, n4, k4⟩⟩, h.below hb0, hb0, hL.below hb0⟩
  clear h hL hb0
  simp only
  have hn3 : n3 ≤ 1000000 := by have := H.out.2.1.h3.len; simp only at this; omega
  have K := Lib.hid (fun W (hd : DRd W ⟨⟨a1, n1, k1⟩, ⟨a2, n2, k2⟩, ⟨a3, n3, k3⟩, ⟨a4, n4, k4⟩⟩ d) => quoT_any ⟨a3, n3, k3⟩ d.ts W hd.h3 hp hn3)
  clear hp hn
  subst ht
  all_goals
    go_enter Tryd.func54, Tryd.ntmps54
    have d0 := H.out.1.1
    have d1 := H.out.1.2.1
    have d2 := H.out.1.2.2.1
    have d3 := H.out.1.2.2.2.1
    simp only at d0 d1 d2 d3
    go_wp2_with fail
    refine (K.out _ H.out.2.1).mono ?_
    rintro e w2 ⟨v, ys, rfl, H2⟩
    have HB2 := Lib.hid (H.out.2.2.1.trans (H2.out.2.2.mono H.out.2.2.1.size))
    go_wp2_with fail
    go_ret
    exact ⟨_, ys, rfl, H2.out.1.mono H.out.2.2.1.size, H2.out.2.1, HB2.out⟩
set_option maxRecDepth 100000 in
set_option maxHeartbeats 4000000 in
theorem tell_hash (t : Nat) (ht : xkn t = false) (x : DA) (d : Dat) (w : World) (h : DRd w x d) (hn : d.raw.length ≤ 65535) (hL : LayT w) :
    Calls Tryd.prog 54 #[.int .u16 t, .agg #[.slice x.p1.a x.p1.n x.p1.c, .slice x.p2.a x.p2.n x.p2.c, .slice x.p3.a x.p3.n x.p3.c, .slice x.p4.a x.p4.n x.p4.c]] w (TLPost (hashW d.raw) w) := by
  obtain ⟨⟨a1, n1, k1⟩, ⟨a2, n2, k2⟩, ⟨a3, n3, k3⟩, ⟨a4, n4, k4⟩⟩ := x
  have hb0 : Below w.heap.size w (w.alloc (.cells #[.slice a1 n1 k1, .slice a2 n2 k2, .slice a3 n3 k3, .slice a4 n4 k4] 35)) := (Below.refl _ _).alloc (Nat.le_refl _) _
  have H : Hid (DBox (w.alloc (.cells #[.slice a1 n1 k1, .slice a2 n2 k2, .slice a3 n3 k3, .slice a4 n4 k4] 35)) w.heap.size ⟨⟨a1, n1, k1⟩, ⟨a2, n2, k2⟩, ⟨a3, n3, k3⟩, ⟨a4, n4, k4⟩⟩ ∧ DRd (w.alloc (.cells #[.slice a1 n1 k1, .slice a2 n2 k2, .slice a3 n3 k3, .slice a4 n4 k4] 35)) ⟨⟨a1, n1, k1⟩, ⟨a2, n2, k2⟩, ⟨a3, n3, k3⟩, ⟨a4, n4, k4⟩⟩ d ∧ Below w.heap.size w (w.alloc (.cells #[.slice a1 n1 k1, .slice a2 n2 k2, .slice a3 n3 k3, .slice a4 n4 k4] 35)) ∧ LayT (w.alloc (.cells #[.slice a1 n1 k1, .slice a2 n2 k2, .slice a3 n3 k3, .slice a4 n4 k4] 35))) := ⟨DBox.new w ⟨⟨a1, n1, k1⟩, ⟨a2, n2, k2⟩, ⟨a3, n3, k3⟩, ⟨a4, n4, k4⟩⟩, h.below hb0, hb0, hL.below hb0⟩
  clear h hL hb0
  simp only
  have hn4 : n4 ≤ 65535 := by have := H.out.2.1.h4.len; simp only at this; omega
  have K := Lib.hid (fun W (hd : DRd W ⟨⟨a1, n1, k1⟩, ⟨a2, n2, k2⟩, ⟨a3, n3, k3⟩, ⟨a4, n4, k4⟩⟩ d) (hW : LayT W) => hashed_any a4 n4 k4 d.raw W hd.h4.rd hd.h4.len hn4 hW)
  clear hn
  have b1 : ((t : Int) == 1) = false := by (rw [beq_eq_false_iff_ne]; intro e; have e2 : t = 1 := (by omega); rw [e2] at ht; exact absurd ht (by decide))
  have b28 : ((t : Int) == 28) = false := by (rw [beq_eq_false_iff_ne]; intro e; have e2 : t = 28 := (by omega); rw [e2] at ht; exact absurd ht (by decide))
  have b2 : ((t : Int) == 2) = false := by (rw [beq_eq_false_iff_ne]; intro e; have e2 : t = 2 := (by omega); rw [e2] at ht; exact absurd ht (by decide))
  have b5 : ((t : Int) == 5) = false := by (rw [beq_eq_false_iff_ne]; intro e; have e2 : t = 5 := (by omega); rw [e2] at ht; exact absurd ht (by decide))
  have b12 : ((t : Int) == 12) = false := by (rw [beq_eq_false_iff_ne]; intro e; have e2 : t = 12 := (by omega); rw [e2] at ht; exact absurd ht (by decide))
  have b6 : ((t : Int) == 6) = false := by (rw [beq_eq_false_iff_ne]; intro e; have e2 : t = 6 := (by omega); rw [e2] at ht; exact absurd ht (by decide))
  have b15 : ((t : Int) == 15) = false := by (rw [beq_eq_false_iff_ne]; intro e; have e2 : t = 15 := (by omega); rw [e2] at ht; exact absurd ht (by decide))
  have b33 : ((t : Int) == 33) = false := by (rw [beq_eq_false_iff_ne]; intro e; have e2 : t = 33 := (by omega); rw [e2] at ht; exact absurd ht (by decide))
  have b16 : ((t : Int) == 16) = false := by (rw [beq_eq_false_iff_ne]; intro e; have e2 : t = 16 := (by omega); rw [e2] at ht; exact absurd ht (by decide))
  have b257 : ((t : Int) == 257) = false := by (rw [beq_eq_false_iff_ne]; intro e; have e2 : t = 257 := (by omega); rw [e2] at ht; exact absurd ht (by decide))
  clear ht
  all_goals
    go_enter Tryd.func54, Tryd.ntmps54
    have d0 := H.out.1.1
    have d1 := H.out.1.2.1
    have d2 := H.out.1.2.2.1
    have d3 := H.out.1.2.2.2.1
    simp only at d0 d1 d2 d3
    go_wp2_with fail
    refine (K.out _ H.out.2.1 H.out.2.2.2).mono ?_
    rintro e w2 ⟨v, ys, rfl, H2⟩
    have HB2 := Lib.hid (H.out.2.2.1.trans (H2.out.2.2.mono H.out.2.2.1.size))
    go_wp2_with fail
    go_ret
    exact ⟨_, ys, rfl, H2.out.1.mono H.out.2.2.1.size, H2.out.2.1, HB2.out⟩
end Go.Proofs.YtoppdmlmhigogaaDoor
namespace Go.Proofs.YtoppdmlmhigogaaDoor
open Go.ChangeShapes Go.WideShapes Go.ChangeAt Go.RowKit
set_option linter.unusedVariables false
set_option linter.unusedSimpArgs false
theorem st_T {w : World} {ops : Array Oper} {o : Oper} {a : Act} {K : Act → World → Prop} {Q : Exit → Act → World → Prop} {E : Prop} (hgd : o.guard = none) (s x : Operand)
    (ho : o.op = .call { callee := .builtin .append, args := #[s, x], argTypes := #[25, 25] }) (B : Nat) (v : Value) (n : Nat) (ss l1 : List ByteArray) (hs : a.eval s = v) (hown : OwnT B w v n ss 1000000) (ht : ss.take n = l1)
    (ao : Option Addr) (m c : Nat) (ns : List ByteArray) (hx : a.eval x = .slice ao m c) (hr : RdT w ao ns) (hl : ns.length = m) (hM : ∀ s ∈ ns, s.size ≤ 1000000) (hb : n + m ≤ 1000000) (hB : B ≤ w.heap.size)
    (h : ∀ v' w' ys, Hid (OwnT B w' v' (n + m) ys 1000000 ∧ ys.take (n + m) = l1 ++ ns) → Hid (w.grownBy w' v.ownBlock) → K (a.put o.dst v') w') :
    if Region.wanted o (yielded ops a.tmps) = true then Oper.wp Tryd.prog o a w K Q else E := by
  refine step_append_row tyT hgd s x 25 ho B v n (tv ss) hs hown.1 (.slice ao m c) m (tv ns) hx (src_of Tryd.underlying25 hr (by rw [tv_len]; exact hl) (tv_one ns)) (by omega) (by simp only [maxLen]; omega) hB ?_
  intro v' w' xs' h1 h2 h3 h4
  obtain ⟨ys, rfl, hys⟩ := tv_of (M := 1000000) xs' (h4.out (QS 1000000) ⟨⟨#[]⟩, rfl, Nat.zero_le _⟩ (qs_tv hown.2) (qs_tv hM))
  refine h v' w' ys ⟨⟨h1.out, hys⟩, ?_⟩ h3
  have h2' := h2.out
  rw [tv_take, tv_take, ← tv_append, ht] at h2'
  exact tv_inj h2'
theorem OwnT.small {B : Nat} {w : World} {v : Value} {n : Nat} {ss l : List ByteArray} {M : Nat} (h : OwnT B w v n ss M) (ht : ss.take n = l) : ∀ s ∈ l, s.size ≤ M := by
  subst ht
  exact fun s hs => h.2 s (List.mem_of_mem_take hs)
/-- What stands behind a call that only makes. -/
theorem aftT {w W w2 : World} {b : Nat} {x : DA} {d : Dat} (h1 : DBox W b x) (h2 : DRd W x d) (h3 : Below w.heap.size w W) (h4 : LayT W) (h : Below W.drew.heap.size W.drew w2) : DBox w2 b x ∧ DRd w2 x d ∧ Below w.heap.size w w2 ∧ LayT w2 := by
  have hb : Below W.heap.size W w2 := ((Below.refl W.heap.size W).drew).trans h
  exact ⟨h1.below hb, h2.below hb, h3.trans (hb.mono h3.size), h4.below hb⟩
theorem two_up {w W w2 w3 : World} {v1 : Value} {ao2 : Option Addr} {l1 l2 y1 y2 : List ByteArray} {c2 : Nat} (hs : w.heap.size ≤ W.heap.size) (h1 : OwnT W.drew.heap.size w2 v1 l1.length y1 1000000) (h2 : y1.take l1.length = l1) (h3 : Below W.drew.heap.size W.drew w2)
    (h4 : OwnT w2.heap.size w3 (.slice ao2 l2.length c2) l2.length y2 1000000) (h5 : y2.take l2.length = l2) (h6 : Below w2.heap.size w2 w3) : OwnT w.heap.size w3 v1 l1.length y1 1000000 ∧ y1.take l1.length = l1 ∧ RdT w3 ao2 l2 ∧ (∀ s ∈ l2, s.size ≤ 1000000) ∧ w.heap.size ≤ w3.heap.size := by
  refine ⟨(h1.below h6).mono hs, h2, ?_, h4.small h5, Nat.le_trans hs (Nat.le_trans h3.size h6.size)⟩
  have := h4.rd l2.length
  rw [h5] at this
  exact this
set_option maxRecDepth 100000 in
set_option maxHeartbeats 4000000 in
theorem tell_soa (t : Nat) (ht : t = 6) (x : DA) (d : Dat) (w : World) (h : DRd w x d) (hp : ∀ n ∈ d.ns, nck n = 0) (hn : d.ns.length ≤ 1000) (hu : d.us.length ≤ 1000) (hL : LayT w) :
    Calls Tryd.prog 54 #[.int .u16 t, .agg #[.slice x.p1.a x.p1.n x.p1.c, .slice x.p2.a x.p2.n x.p2.c, .slice x.p3.a x.p3.n x.p3.c, .slice x.p4.a x.p4.n x.p4.c]] w (TLPost (d.ns.map (fun n => (ntext n).1) ++ d.us.map xnw) w) := by
  obtain ⟨⟨a1, n1, k1⟩, ⟨a2, n2, k2⟩, ⟨a3, n3, k3⟩, ⟨a4, n4, k4⟩⟩ := x
  have hb0 : Below w.heap.size w (w.alloc (.cells #[.slice a1 n1 k1, .slice a2 n2 k2, .slice a3 n3 k3, .slice a4 n4 k4] 35)) := (Below.refl _ _).alloc (Nat.le_refl _) _
  have H : Hid (DBox (w.alloc (.cells #[.slice a1 n1 k1, .slice a2 n2 k2, .slice a3 n3 k3, .slice a4 n4 k4] 35)) w.heap.size ⟨⟨a1, n1, k1⟩, ⟨a2, n2, k2⟩, ⟨a3, n3, k3⟩, ⟨a4, n4, k4⟩⟩ ∧ DRd (w.alloc (.cells #[.slice a1 n1 k1, .slice a2 n2 k2, .slice a3 n3 k3, .slice a4 n4 k4] 35)) ⟨⟨a1, n1, k1⟩, ⟨a2, n2, k2⟩, ⟨a3, n3, k3⟩, ⟨a4, n4, k4⟩⟩ d ∧ Below w.heap.size w (w.alloc (.cells #[.slice a1 n1 k1, .slice a2 n2 k2, .slice a3 n3 k3, .slice a4 n4 k4] 35)) ∧ LayT (w.alloc (.cells #[.slice a1 n1 k1, .slice a2 n2 k2, .slice a3 n3 k3, .slice a4 n4 k4] 35))) := ⟨DBox.new w ⟨⟨a1, n1, k1⟩, ⟨a2, n2, k2⟩, ⟨a3, n3, k3⟩, ⟨a4, n4, k4⟩⟩, h.below hb0, hb0, hL.below hb0⟩
  clear h hL hb0
  simp only
  have hn1 : n1 ≤ 1000 := by have := H.out.2.1.h1.len; simp only at this; omega
  have hn2 : n2 ≤ 1000 := by have := H.out.2.1.h2.len; simp only at this; omega
  have HLL : Hid (d.ns.length = n1 ∧ d.us.length = n2) := ⟨H.out.2.1.h1.len, H.out.2.1.h2.len⟩
  have KN := Lib.hid (fun W (hd : DRd W ⟨⟨a1, n1, k1⟩, ⟨a2, n2, k2⟩, ⟨a3, n3, k3⟩, ⟨a4, n4, k4⟩⟩ d) (_ : LayT W) => nameT_any ⟨a1, n1, k1⟩ d.ns W hd.h1 hp (show n1 ≤ 1000000 by omega))
  have KU := Lib.hid (fun W (hd : DRd W ⟨⟨a1, n1, k1⟩, ⟨a2, n2, k2⟩, ⟨a3, n3, k3⟩, ⟨a4, n4, k4⟩⟩ d) (hW : LayT W) => numT_any ⟨a2, n2, k2⟩ d.us W hd.h2 (show n2 ≤ 1000000 by omega) hW)
  clear hp hn hu
  have HSN : Hid ((d.ns.map (fun n => (ntext n).1)).length = n1) := by show _ = _; rw [List.length_map]; exact HLL.out.1
  have HSU : Hid ((d.us.map xnw).length = n2) := by show _ = _; rw [List.length_map]; exact HLL.out.2
  generalize d.ns.map (fun n => (ntext n).1) = lN at *
  generalize d.us.map xnw = lU at *
  subst ht
  all_goals
    go_enter Tryd.func54, Tryd.ntmps54
    have d0 := H.out.1.1
    have d1 := H.out.1.2.1
    have d2 := H.out.1.2.2.1
    have d3 := H.out.1.2.2.2.1
    simp only at d0 d1 d2 d3
    go_wp2_with fail
    generalize (w.alloc (.cells #[.slice a1 n1 k1, .slice a2 n2 k2, .slice a3 n3 k3, .slice a4 n4 k4] 35)) = wa at *
    go_region_law (first
      | (refine st_T rfl _ _ rfl w.heap.size _ lN.length y1 lN rfl H4.out.1 H4.out.2.1 ao2 lU.length y2.length lU rfl H4.out.2.2.1 rfl H4.out.2.2.2.1 (by have := HSN.out; have := HSU.out; omega) H4.out.2.2.2.2 ?_; intro v' w' ys' hO' hG')
      | (go_simp; go_at_call 69; refine (KN.out _ (H.out.2.1.below (Below.refl _ _).drew) (H.out.2.2.2.below (Below.refl _ _).drew)).mono ?_; rintro e w2 ⟨v1, y1, rfl, H2⟩; have HA := Lib.hid (aftT H.out.1 H.out.2.1 H.out.2.2.1 H.out.2.2.2 H2.out.2.2); have e0 := HA.out.1.1; have e1 := HA.out.1.2.1; have e2 := HA.out.1.2.2.1; have e3 := HA.out.1.2.2.2.1; simp only at e0 e1 e2 e3; obtain ⟨ao1, rfl, -⟩ := H2.out.1.shape)
      | (go_simp; go_at_call 70; refine (KU.out _ HA.out.2.1 HA.out.2.2.2).mono ?_; rintro e w3 ⟨v2, y2, rfl, H3⟩; obtain ⟨ao2, rfl, -⟩ := H3.out.1.shape; have H4 := Lib.hid (two_up H.out.2.2.1.size H2.out.1 H2.out.2.1 H2.out.2.2 H3.out.1 H3.out.2.1 H3.out.2.2)))
    all_goals
      have HB3 := Lib.hid (HA.out.2.2.1.trans (H3.out.2.2.mono HA.out.2.2.1.size))
      have hrow := H4.out.1.1.lt
      go_wp2
      go_ret
      refine ⟨_, ys', rfl, ?_, ?_, HB3.out.grown hG'.out HB3.out.size hrow⟩
      · rw [List.length_append]; exact hO'.out.1
      · rw [List.length_append]; exact hO'.out.2
set_option maxRecDepth 100000 in
set_option maxHeartbeats 4000000 in
theorem tell_mx (t : Nat) (ht : t = 15 ∨ t = 33) (x : DA) (d : Dat) (w : World) (h : DRd w x d) (hp : ∀ n ∈ d.ns, nck n = 0) (hn : d.ns.length ≤ 1000) (hu : d.us.length ≤ 1000) (hL : LayT w) :
    Calls Tryd.prog 54 #[.int .u16 t, .agg #[.slice x.p1.a x.p1.n x.p1.c, .slice x.p2.a x.p2.n x.p2.c, .slice x.p3.a x.p3.n x.p3.c, .slice x.p4.a x.p4.n x.p4.c]] w (TLPost (d.us.map xnw ++ d.ns.map (fun n => (ntext n).1)) w) := by
  obtain ⟨⟨a1, n1, k1⟩, ⟨a2, n2, k2⟩, ⟨a3, n3, k3⟩, ⟨a4, n4, k4⟩⟩ := x
  have hb0 : Below w.heap.size w (w.alloc (.cells #[.slice a1 n1 k1, .slice a2 n2 k2, .slice a3 n3 k3, .slice a4 n4 k4] 35)) := (Below.refl _ _).alloc (Nat.le_refl _) _
  have H : Hid (DBox (w.alloc (.cells #[.slice a1 n1 k1, .slice a2 n2 k2, .slice a3 n3 k3, .slice a4 n4 k4] 35)) w.heap.size ⟨⟨a1, n1, k1⟩, ⟨a2, n2, k2⟩, ⟨a3, n3, k3⟩, ⟨a4, n4, k4⟩⟩ ∧ DRd (w.alloc (.cells #[.slice a1 n1 k1, .slice a2 n2 k2, .slice a3 n3 k3, .slice a4 n4 k4] 35)) ⟨⟨a1, n1, k1⟩, ⟨a2, n2, k2⟩, ⟨a3, n3, k3⟩, ⟨a4, n4, k4⟩⟩ d ∧ Below w.heap.size w (w.alloc (.cells #[.slice a1 n1 k1, .slice a2 n2 k2, .slice a3 n3 k3, .slice a4 n4 k4] 35)) ∧ LayT (w.alloc (.cells #[.slice a1 n1 k1, .slice a2 n2 k2, .slice a3 n3 k3, .slice a4 n4 k4] 35))) := ⟨DBox.new w ⟨⟨a1, n1, k1⟩, ⟨a2, n2, k2⟩, ⟨a3, n3, k3⟩, ⟨a4, n4, k4⟩⟩, h.below hb0, hb0, hL.below hb0⟩
  clear h hL hb0
  simp only
  have hn1 : n1 ≤ 1000 := by have := H.out.2.1.h1.len; simp only at this; omega
  have hn2 : n2 ≤ 1000 := by have := H.out.2.1.h2.len; simp only at this; omega
  have HLL : Hid (d.ns.length = n1 ∧ d.us.length = n2) := ⟨H.out.2.1.h1.len, H.out.2.1.h2.len⟩
  have KN := Lib.hid (fun W (hd : DRd W ⟨⟨a1, n1, k1⟩, ⟨a2, n2, k2⟩, ⟨a3, n3, k3⟩, ⟨a4, n4, k4⟩⟩ d) (_ : LayT W) => nameT_any ⟨a1, n1, k1⟩ d.ns W hd.h1 hp (show n1 ≤ 1000000 by omega))
  have KU := Lib.hid (fun W (hd : DRd W ⟨⟨a1, n1, k1⟩, ⟨a2, n2, k2⟩, ⟨a3, n3, k3⟩, ⟨a4, n4, k4⟩⟩ d) (hW : LayT W) => numT_any ⟨a2, n2, k2⟩ d.us W hd.h2 (show n2 ≤ 1000000 by omega) hW)
  clear hp hn hu
  have HSN : Hid ((d.ns.map (fun n => (ntext n).1)).length = n1) := by show _ = _; rw [List.length_map]; exact HLL.out.1
  have HSU : Hid ((d.us.map xnw).length = n2) := by show _ = _; rw [List.length_map]; exact HLL.out.2
  generalize d.ns.map (fun n => (ntext n).1) = lN at *
  generalize d.us.map xnw = lU at *
  rcases ht with rfl | rfl
  all_goals
    go_enter Tryd.func54, Tryd.ntmps54
    have d0 := H.out.1.1
    have d1 := H.out.1.2.1
    have d2 := H.out.1.2.2.1
    have d3 := H.out.1.2.2.2.1
    simp only at d0 d1 d2 d3
    go_wp2_with fail
    generalize (w.alloc (.cells #[.slice a1 n1 k1, .slice a2 n2 k2, .slice a3 n3 k3, .slice a4 n4 k4] 35)) = wa at *
    go_region_law (first
      | (refine st_T rfl _ _ rfl w.heap.size _ lU.length y1 lU rfl H4.out.1 H4.out.2.1 ao2 lN.length y2.length lN rfl H4.out.2.2.1 rfl H4.out.2.2.2.1 (by have := HSN.out; have := HSU.out; omega) H4.out.2.2.2.2 ?_; intro v' w' ys' hO' hG')
      | (go_simp; go_at_call 70; refine (KU.out _ (H.out.2.1.below (Below.refl _ _).drew) (H.out.2.2.2.below (Below.refl _ _).drew)).mono ?_; rintro e w2 ⟨v1, y1, rfl, H2⟩; have HA := Lib.hid (aftT H.out.1 H.out.2.1 H.out.2.2.1 H.out.2.2.2 H2.out.2.2); have e0 := HA.out.1.1; have e1 := HA.out.1.2.1; have e2 := HA.out.1.2.2.1; have e3 := HA.out.1.2.2.2.1; simp only at e0 e1 e2 e3; obtain ⟨ao1, rfl, -⟩ := H2.out.1.shape)
      | (go_simp; go_at_call 69; refine (KN.out _ HA.out.2.1 HA.out.2.2.2).mono ?_; rintro e w3 ⟨v2, y2, rfl, H3⟩; obtain ⟨ao2, rfl, -⟩ := H3.out.1.shape; have H4 := Lib.hid (two_up H.out.2.2.1.size H2.out.1 H2.out.2.1 H2.out.2.2 H3.out.1 H3.out.2.1 H3.out.2.2)))
    all_goals
      have HB3 := Lib.hid (HA.out.2.2.1.trans (H3.out.2.2.mono HA.out.2.2.1.size))
      have hrow := H4.out.1.1.lt
      go_wp2
      go_ret
      refine ⟨_, ys', rfl, ?_, ?_, HB3.out.grown hG'.out HB3.out.size hrow⟩
      · rw [List.length_append]; exact hO'.out.1
      · rw [List.length_append]; exact hO'.out.2
end Go.Proofs.YtoppdmlmhigogaaDoor
namespace Go.Proofs.YtoppdmlmhigogaaDoor
open Go.ChangeShapes Go.WideShapes Go.ChangeAt Go.RowKit
set_option linter.unusedVariables false
set_option linter.unusedSimpArgs false
theorem two_rdT (w : World) (s t : ByteArray) : RdT (w.alloc (.cells #[.string s, .string t] 9)) (some ⟨w.heap.size, 0, none⟩) [s, t] := by
  have := (show BlkV (w.alloc (.cells (tv [s, t]).toArray 9)) w.heap.size 9 (tv [s, t]) from heap_alloc_new _ _).rd 2
  exact this
theorem own_up {wa w2 w3 : World} {v : Value} {n : Nat} {ys : List ByteArray} (h1 : OwnT wa.drew.heap.size w2 v n ys 1000000) (h2 : Below wa.heap.size wa w2) (h3 : Below w2.heap.size w2 w3) (a b : ByteArray) : OwnT wa.heap.size (w3.alloc (.cells #[.string a, .string b] 9)) v n ys 1000000 ∧ wa.heap.size ≤ (w3.alloc (.cells #[.string a, .string b] 9)).heap.size ∧ Below wa.heap.size wa (w3.alloc (.cells #[.string a, .string b] 9)) := by
  have h4 : Below w3.heap.size w3 (w3.alloc (.cells #[.string a, .string b] 9)) := (Below.refl _ _).alloc (Nat.le_refl _) _
  have h5 : Below wa.heap.size wa w3 := h2.trans (h3.mono h2.size)
  exact ⟨(h1.below h3).below h4, Nat.le_trans h5.size h4.size, h5.trans (h4.mono h5.size)⟩
set_option maxRecDepth 100000 in
set_option maxHeartbeats 4000000 in
theorem tell_caa (t : Nat) (ht : t = 257) (x : DA) (d : Dat) (w : World) (h : DRd w x d) (hu : d.us.length ≤ 1000) (s0 s1 : ByteArray) (hts : d.ts = [s0, s1]) (hz0 : s0.size ≤ 200000) (hz1 : s1.size ≤ 200000) (hL : LayT w) :
    Calls Tryd.prog 54 #[.int .u16 t, .agg #[.slice x.p1.a x.p1.n x.p1.c, .slice x.p2.a x.p2.n x.p2.c, .slice x.p3.a x.p3.n x.p3.c, .slice x.p4.a x.p4.n x.p4.c]] w (TLPost (d.us.map xnw ++ xtw 257 d.ts) w) := by
  obtain ⟨⟨a1, n1, k1⟩, ⟨a2, n2, k2⟩, ⟨a3, n3, k3⟩, ⟨a4, n4, k4⟩⟩ := x
  have hb0 : Below w.heap.size w (w.alloc (.cells #[.slice a1 n1 k1, .slice a2 n2 k2, .slice a3 n3 k3, .slice a4 n4 k4] 35)) := (Below.refl _ _).alloc (Nat.le_refl _) _
  have H : Hid (DBox (w.alloc (.cells #[.slice a1 n1 k1, .slice a2 n2 k2, .slice a3 n3 k3, .slice a4 n4 k4] 35)) w.heap.size ⟨⟨a1, n1, k1⟩, ⟨a2, n2, k2⟩, ⟨a3, n3, k3⟩, ⟨a4, n4, k4⟩⟩ ∧ DRd (w.alloc (.cells #[.slice a1 n1 k1, .slice a2 n2 k2, .slice a3 n3 k3, .slice a4 n4 k4] 35)) ⟨⟨a1, n1, k1⟩, ⟨a2, n2, k2⟩, ⟨a3, n3, k3⟩, ⟨a4, n4, k4⟩⟩ d ∧ Below w.heap.size w (w.alloc (.cells #[.slice a1 n1 k1, .slice a2 n2 k2, .slice a3 n3 k3, .slice a4 n4 k4] 35)) ∧ LayT (w.alloc (.cells #[.slice a1 n1 k1, .slice a2 n2 k2, .slice a3 n3 k3, .slice a4 n4 k4] 35))) := ⟨DBox.new w ⟨⟨a1, n1, k1⟩, ⟨a2, n2, k2⟩, ⟨a3, n3, k3⟩, ⟨a4, n4, k4⟩⟩, h.below hb0, hb0, hL.below hb0⟩
  clear h hL hb0
  simp only
  have hn2 : n2 ≤ 1000 := by have := H.out.2.1.h2.len; simp only at this; omega
  have hn3 : n3 = 2 := by have := H.out.2.1.h3.len; simp only at this; rw [hts] at this; exact this.symm
  subst hn3
  have HT3 := Lib.hid H.out.2.1.h3
  rw [hts] at HT3
  obtain ⟨b3, o3, hbo, hb3, c0⟩ := HT3.out.rd.at 0 (by simp)
  obtain ⟨b3', o3', hbo', hb3', c1⟩ := HT3.out.rd.at 1 (by simp)
  simp only at hbo hbo'
  rw [hbo] at hbo'
  injection hbo' with hbo'
  injection hbo' with e1 e2
  subst e1; subst e2
  subst hbo
  clear hb3'
  simp only [List.getElem_cons_zero, List.getElem_cons_succ, Nat.add_zero] at c0 c1
  have HSU : Hid ((d.us.map xnw).length = n2) := by show _ = _; rw [List.length_map]; exact H.out.2.1.h2.len
  have KU := Lib.hid (fun W (hd : DRd W ⟨⟨a1, n1, k1⟩, ⟨a2, n2, k2⟩, ⟨some ⟨b3, o3, none⟩, 2, k3⟩, ⟨a4, n4, k4⟩⟩ d) (hW : LayT W) => numT_any ⟨a2, n2, k2⟩ d.us W hd.h2 (show n2 ≤ 1000000 by omega) hW)
  have KQ := Lib.hid (fun W => quote_any s1 W (by omega))
  have hq : (xqw s1).size ≤ 1000000 := by have := xqw_size s1; omega
  have e257 : xtw 257 d.ts = [s0, xqw s1] := by rw [hts]; rfl
  rw [e257]
  clear hu e257 hts HT3
  generalize d.us.map xnw = lU at *
  generalize xqw s1 = q at *
  subst ht
  have C3 := Lib.hid (⟨c0, c1, hb3⟩ : _ ∧ _ ∧ _)
  go_enter Tryd.func54, Tryd.ntmps54
  have d0 := H.out.1.1
  have d1 := H.out.1.2.1
  have d2 := H.out.1.2.2.1
  have d3 := H.out.1.2.2.2.1
  simp only at d0 d1 d2 d3
  go_wp2_with fail
  generalize (w.alloc (.cells #[.slice a1 n1 k1, .slice a2 n2 k2, .slice (some ⟨b3, o3, none⟩) 2 k3, .slice a4 n4 k4] 35)) = wa at *
  have hbx : w.heap.size < wa.heap.size := H.out.1.2.2.2.2
  have HSC : Hid (∀ W, Below wa.heap.size wa W → W.cell? ⟨w.heap.size, 1, none⟩ = some (.slice a2 n2 k2) ∧ W.cell? ⟨w.heap.size, 2, none⟩ = some (.slice (some ⟨b3, o3, none⟩) 2 k3) ∧ W.cell? ⟨b3, o3, none⟩ = some (.string s0) ∧ W.cell? ⟨b3, o3 + 1, none⟩ = some (.string s1)) := fun W hW => ⟨(hW.cell (p := ⟨w.heap.size, 1, none⟩) hbx).trans d1, (hW.cell (p := ⟨w.heap.size, 2, none⟩) hbx).trans d2, (hW.cell (p := ⟨b3, o3, none⟩) C3.out.2.2).trans C3.out.1, (hW.cell (p := ⟨b3, o3 + 1, none⟩) C3.out.2.2).trans C3.out.2.1⟩
  have HDD : Hid (∀ W, Below wa.heap.size wa W → DRd W ⟨⟨a1, n1, k1⟩, ⟨a2, n2, k2⟩, ⟨some ⟨b3, o3, none⟩, 2, k3⟩, ⟨a4, n4, k4⟩⟩ d ∧ LayT W) := fun W hW => ⟨H.out.2.1.below hW, H.out.2.2.2.below hW⟩
  have HWA : Hid (Below w.heap.size w wa) := H.out.2.2.1
  clear d0 d3 H C3
  go_region_held3 (fun W => W.cell? ⟨w.heap.size, 1, none⟩ = some (.slice a2 n2 k2) ∧ W.cell? ⟨w.heap.size, 2, none⟩ = some (.slice (some ⟨b3, o3, none⟩) 2 k3) ∧ W.cell? ⟨b3, o3, none⟩ = some (.string s0) ∧ W.cell? ⟨b3, o3 + 1, none⟩ = some (.string s1)) (exact ⟨by go_keep, by go_keep, by go_keep, by go_keep⟩) (first
    | (go_at_call 70; refine (KU.out _ (HDD.out _ (Below.refl _ _).drew).1 (HDD.out _ (Below.refl _ _).drew).2).mono ?_; rintro e w2 ⟨v1, y1, rfl, H2⟩; have HB2 : Hid (Below wa.heap.size wa w2) := (Below.refl wa.heap.size wa).drew.trans H2.out.2.2; obtain ⟨e1, e2, e3, e4⟩ := HSC.out w2 HB2.out; obtain ⟨ao1, rfl, -⟩ := H2.out.1.shape)
    | (go_at_call 72; refine (KQ.out _).mono ?_; rintro e w3 ⟨rfl, H3⟩; have HB3 : Hid (Below wa.heap.size wa w3) := HB2.out.trans (H3.out.mono HB2.out.size); obtain ⟨f1, f2, f3, f4⟩ := HSC.out w3 HB3.out; have H5 : Hid (OwnT wa.heap.size (w3.alloc (.cells #[.string s0, .string q] 9)) (.slice ao1 lU.length y1.length) lU.length y1 1000000 ∧ wa.heap.size ≤ (w3.alloc (.cells #[.string s0, .string q] 9)).heap.size ∧ Below wa.heap.size wa (w3.alloc (.cells #[.string s0, .string q] 9))) := own_up H2.out.1 HB2.out H3.out s0 q; obtain ⟨i1, i2, i3, i4⟩ := HSC.out _ H5.out.2.2)
    | (refine st_T rfl _ _ rfl wa.heap.size _ lU.length y1 lU rfl H5.out.1 H2.out.2.1 (some ⟨w3.heap.size, 0, none⟩) 2 2 [s0, q] rfl (two_rdT w3 s0 q) rfl (by intro s hs; simp at hs; rcases hs with rfl | rfl <;> omega) (by have := HSU.out; omega) H5.out.2.1 ?_; intro v' w' ys' hO' hG'; have HB5 : Hid (Below wa.heap.size wa w') := H5.out.2.2.grown hG'.out H5.out.2.1 H5.out.1.1.lt; obtain ⟨j1, j2, j3, j4⟩ := HSC.out w' HB5.out))
  all_goals
    go_wp2
    go_ret
    refine ⟨_, ys', rfl, ?_, ?_, HWA.out.trans (HB5.out.mono HWA.out.size)⟩
    · rw [List.length_append]; exact hO'.out.1.mono HWA.out.size
    · rw [List.length_append]; exact hO'.out.2
end Go.Proofs.YtoppdmlmhigogaaDoor
namespace Go.Proofs.YtoppdmlmhigogaaDoor
open Go.ChangeShapes Go.WideShapes Go.ChangeAt Go.RowKit
set_option linter.unusedVariables false
set_option linter.unusedSimpArgs false
theorem tell_any (t : Nat) (x : DA) (d : Dat) (w : World) (h : DRd w x d) (hc : checkF t d = 0) (hB : Bd d) (hL : LayT w) :
    Calls Tryd.prog 54 #[.int .u16 t, .agg #[.slice x.p1.a x.p1.n x.p1.c, .slice x.p2.a x.p2.n x.p2.c, .slice x.p3.a x.p3.n x.p3.c, .slice x.p4.a x.p4.n x.p4.c]] w (TLPost (xwords t d) w) := by
  obtain ⟨hm, hf, hn, hz⟩ := check_parts hc
  have hns := hB.n
  have hus := hB.u
  have hrl : d.raw.length ≤ 65535 := by unfold sizesF at hz; omega
  unfold fitsB at hf
  simp only [Bool.and_eq_true, decide_eq_true_eq, Bool.or_eq_true, List.all_eq_true] at hf
  obtain ⟨⟨⟨⟨⟨⟨⟨f1, f2⟩, f3⟩, f4⟩, f5⟩, f6⟩, f7⟩, f8⟩ := hf
  rcases shp_cases t with ⟨ht, e⟩ | ⟨ht, e⟩ | ⟨ht, e⟩ | ⟨ht, e⟩ | ⟨ht, e⟩ | ⟨ht, e⟩ | ⟨ht, e⟩ | ⟨ht, e⟩ | ⟨ht, e⟩
  all_goals rw [e] at f1 f2 f3 f4 f5 f6
  all_goals simp only at f1 f2 f3 f4 f5 f6
  · have hx : xwords t d = [lb ((xaddr d.raw).getD [])] := by unfold xwords; rw [if_pos (.inl ht)]
    rw [hx]
    exact tell_addr t (.inl ht) x d w h (.inl (by omega)) hL
  · have hx : xwords t d = [lb ((xaddr d.raw).getD [])] := by unfold xwords; rw [if_pos (.inr ht)]
    rw [hx]
    exact tell_addr t (.inr ht) x d w h (.inr (by omega)) hL
  · have e2 : d.us = [] := List.length_eq_zero_iff.1 f2
    have e3 : d.ts = [] := List.length_eq_zero_iff.1 (by omega)
    have hx : xwords t d = d.ns.map (fun n => (ntext n).1) := by
      unfold xwords
      rw [if_neg (by omega), if_neg (by rcases ht with rfl | rfl | rfl <;> decide), if_neg (by omega), e2, e3]
      unfold xtw
      rw [if_neg (by omega)]
      simp
    rw [hx]
    exact tell_names t ht x d w h hn hns hL
  · have hx : xwords t d = d.ns.map (fun n => (ntext n).1) ++ d.us.map xnw := by
      subst ht
      unfold xwords
      rw [if_neg (by omega), if_neg (by decide), if_pos rfl]
    rw [hx]
    exact tell_soa t ht x d w h hn hns hus hL
  · have e3 : d.ts = [] := List.length_eq_zero_iff.1 (by omega)
    have hx : xwords t d = d.us.map xnw ++ d.ns.map (fun n => (ntext n).1) := by
      subst ht
      unfold xwords
      rw [if_neg (by omega), if_neg (by decide), if_neg (by omega), e3]
      unfold xtw
      rw [if_neg (by omega)]
      simp
    rw [hx]
    exact tell_mx t (.inl ht) x d w h hn hns hus hL
  · have e3 : d.ts = [] := List.length_eq_zero_iff.1 (by omega)
    have hx : xwords t d = d.us.map xnw ++ d.ns.map (fun n => (ntext n).1) := by
      subst ht
      unfold xwords
      rw [if_neg (by omega), if_neg (by decide), if_neg (by omega), e3]
      unfold xtw
      rw [if_neg (by omega)]
      simp
    rw [hx]
    exact tell_mx t (.inr ht) x d w h hn hns hus hL
  · have e1 : d.ns = [] := List.length_eq_zero_iff.1 f1
    have e2 : d.us = [] := List.length_eq_zero_iff.1 f2
    have hx : xwords t d = d.ts.map xqw := by
      subst ht
      unfold xwords
      rw [if_neg (by omega), if_neg (by decide), if_neg (by omega), e1, e2]
      unfold xtw
      rw [if_neg (by omega)]
      simp
    have h7 : ∀ s ∈ d.ts, s.size ≤ 255 := by
      rcases f7 with h | h
      · exact absurd ht h
      · exact h
    have hl : d.ts.length ≤ 65535 := by
      have h1 : tsz t d.ts ≤ 65535 := by unfold sizesF at hz; omega
      unfold tsz at h1
      rw [if_pos ht] at h1
      have h2 := nby_len d.ts
      have h3 := nsz_len d.ts
      omega
    rw [hx]
    exact tell_txt t ht x d w h (fun s hs => by have := h7 s hs; omega) (by omega) hL
  · match hts : d.ts, f3 with
    | [s0, s1], _ =>
      have hx : xwords t d = d.us.map xnw ++ xtw 257 d.ts := by
        have e1 : d.ns = [] := List.length_eq_zero_iff.1 f1
        subst ht
        unfold xwords
        rw [if_neg (by omega), if_neg (by decide), if_neg (by omega), e1]
        simp
      have h1 : tsz t d.ts ≤ 65535 := by unfold sizesF at hz; omega
      unfold tsz at h1
      rw [if_neg (by omega), hts] at h1
      simp only [List.flatMap_cons, List.flatMap_nil, List.append_nil, nums_len] at h1
      rw [hx]
      exact tell_caa t ht x d w h hus s0 s1 hts (by omega) (by omega) hL
    | [], f3 => simp at f3
    | [a], f3 => simp at f3
    | a :: b :: c :: r, f3 => simp at f3; omega
  · obtain ⟨h1, h2, h3, h4, h5, h6, h7, h8, h9, h10⟩ := ht
    have hk : xkn t = false := by simp [xkn, h1, h2, h3, h4, h5, h6, h7, h8, h9, h10]
    have hx : xwords t d = hashW d.raw := by
      unfold xwords hashW
      rw [if_neg (by omega), if_pos hk]
    rw [hx]
    exact tell_hash t hk x d w h hrl hL
def wordsR (t : Nat) (d : Dat) : List ByteArray := if checkF t d = 0 then xwords t d else []
def textR (t : Nat) (d : Dat) : ByteArray := lb (xjoin 32 ((wordsR t d).map nums))
def WdPost (t : Nat) (d : Dat) (w : World) (e : Ending) (w' : World) : Prop :=
  ∃ v ys, e = .returned (.tuple #[v, .int .i64 (checkF t d)]) ∧ Hid (OwnT w.heap.size w' v (wordsR t d).length ys 1000000 ∧ ys.take (wordsR t d).length = wordsR t d ∧ Below w.heap.size w w')
set_option maxRecDepth 100000 in
set_option maxHeartbeats 2000000 in
theorem words_any (t : Nat) (x : DA) (d : Dat) (w : World) (h : DRd w x d) (hB : Bd d) (hL : LayT w) :
    Calls Tryd.prog 39 #[.int .u16 t, .agg #[.slice x.p1.a x.p1.n x.p1.c, .slice x.p2.a x.p2.n x.p2.c, .slice x.p3.a x.p3.n x.p3.c, .slice x.p4.a x.p4.n x.p4.c]] w (WdPost t d w) := by
  obtain ⟨⟨a1, n1, k1⟩, ⟨a2, n2, k2⟩, ⟨a3, n3, k3⟩, ⟨a4, n4, k4⟩⟩ := x
  have hb0 : Below w.heap.size w (w.alloc (.cells #[.slice a1 n1 k1, .slice a2 n2 k2, .slice a3 n3 k3, .slice a4 n4 k4] 35)) := (Below.refl _ _).alloc (Nat.le_refl _) _
  have H : Hid (DBox (w.alloc (.cells #[.slice a1 n1 k1, .slice a2 n2 k2, .slice a3 n3 k3, .slice a4 n4 k4] 35)) w.heap.size ⟨⟨a1, n1, k1⟩, ⟨a2, n2, k2⟩, ⟨a3, n3, k3⟩, ⟨a4, n4, k4⟩⟩ ∧ DRd (w.alloc (.cells #[.slice a1 n1 k1, .slice a2 n2 k2, .slice a3 n3 k3, .slice a4 n4 k4] 35)) ⟨⟨a1, n1, k1⟩, ⟨a2, n2, k2⟩, ⟨a3, n3, k3⟩, ⟨a4, n4, k4⟩⟩ d ∧ Below w.heap.size w (w.alloc (.cells #[.slice a1 n1 k1, .slice a2 n2 k2, .slice a3 n3 k3, .slice a4 n4 k4] 35)) ∧ LayT (w.alloc (.cells #[.slice a1 n1 k1, .slice a2 n2 k2, .slice a3 n3 k3, .slice a4 n4 k4] 35))) := ⟨DBox.new w ⟨⟨a1, n1, k1⟩, ⟨a2, n2, k2⟩, ⟨a3, n3, k3⟩, ⟨a4, n4, k4⟩⟩, h.below hb0, hb0, hL.below hb0⟩
  have KC := Lib.hid (fun W (hd : DRd W ⟨⟨a1, n1, k1⟩, ⟨a2, n2, k2⟩, ⟨a3, n3, k3⟩, ⟨a4, n4, k4⟩⟩ d) => check_any t ⟨⟨a1, n1, k1⟩, ⟨a2, n2, k2⟩, ⟨a3, n3, k3⟩, ⟨a4, n4, k4⟩⟩ d W hd hB)
  have KT := Lib.hid (fun (hc : checkF t d = 0) W (hd : DRd W ⟨⟨a1, n1, k1⟩, ⟨a2, n2, k2⟩, ⟨a3, n3, k3⟩, ⟨a4, n4, k4⟩⟩ d) (hW : LayT W) => tell_any t ⟨⟨a1, n1, k1⟩, ⟨a2, n2, k2⟩, ⟨a3, n3, k3⟩, ⟨a4, n4, k4⟩⟩ d W hd hc hB hW)
  clear h hL hb0 hB
  simp only at KC KT ⊢
  have HWR : Hid (wordsR t d = if checkF t d = 0 then xwords t d else []) := rfl
  obtain ⟨C, hC⟩ : ∃ C, checkF t d = C := ⟨_, rfl⟩
  have HC : Hid (checkF t d = C) := hC
  rw [hC] at KC KT HWR
  clear hC
  go_enter Tryd.func39, Tryd.ntmps39
  have d0 := H.out.1.1
  have d1 := H.out.1.2.1
  have d2 := H.out.1.2.2.1
  have d3 := H.out.1.2.2.2.1
  simp only at d0 d1 d2 d3
  go_wp2_with fail
  generalize (w.alloc (.cells #[.slice a1 n1 k1, .slice a2 n2 k2, .slice a3 n3 k3, .slice a4 n4 k4] 35)) = wa at *
  refine (KC.out _ H.out.2.1).mono ?_
  rintro e w2 ⟨rfl, H2⟩
  have HA := Lib.hid (⟨H.out.1.below H2.out, H.out.2.1.below H2.out, H.out.2.2.1.trans (H2.out.mono H.out.2.2.1.size), H.out.2.2.2.below H2.out⟩ : DBox w2 _ _ ∧ DRd w2 _ _ ∧ Below w.heap.size w w2 ∧ LayT w2)
  clear d0 d1 d2 d3 H2 H KC
  by_cases h0 : C = 0
  · subst h0
    rw [if_pos rfl] at HWR
    have d0 := HA.out.1.1
    have d1 := HA.out.1.2.1
    have d2 := HA.out.1.2.2.1
    have d3 := HA.out.1.2.2.2.1
    simp only at d0 d1 d2 d3
    go_wp2_with fail
    refine (KT.out (by first | rfl | trivial) _ HA.out.2.1 HA.out.2.2.2).mono ?_
    rintro e w3 ⟨v, ys, rfl, H3⟩
    have HB3 := Lib.hid (HA.out.2.2.1.trans (H3.out.2.2.mono HA.out.2.2.1.size))
    go_wp2_with fail
    go_ret2
    refine ⟨_, ys, by rw [HC.out]; rfl, ?_⟩
    rw [HWR.out]
    exact ⟨H3.out.1.mono HA.out.2.2.1.size, H3.out.2.1, HB3.out⟩
  · have h0' : (C != 0) = true := by simp [h0]
    rw [if_neg h0] at HWR
    go_wp2_with fail
    go_ret2
    refine ⟨.slice none 0 0, [], by rw [HC.out]; rfl, ?_⟩
    rw [HWR.out]
    exact ⟨OwnT.nil _ _ _, rfl, HA.out.2.2.1⟩
set_option maxRecDepth 100000 in
set_option maxHeartbeats 2000000 in
theorem text13_any (t : Nat) (x : DA) (d : Dat) (w : World) (h : DRd w x d) (hB : Bd d) (hL : LayT w) (hlw : (wordsR t d).length ≤ 100000) :
    Calls Tryd.prog 21 #[.int .u16 t, .agg #[.slice x.p1.a x.p1.n x.p1.c, .slice x.p2.a x.p2.n x.p2.c, .slice x.p3.a x.p3.n x.p3.c, .slice x.p4.a x.p4.n x.p4.c]] w fun e w' => e = .returned (.tuple #[.string (textR t d), .int .i64 (checkF t d)]) ∧ Hid (Below w.heap.size w w') := by
  obtain ⟨⟨a1, n1, k1⟩, ⟨a2, n2, k2⟩, ⟨a3, n3, k3⟩, ⟨a4, n4, k4⟩⟩ := x
  have hb0 : Below w.heap.size w (w.alloc (.cells #[.slice a1 n1 k1, .slice a2 n2 k2, .slice a3 n3 k3, .slice a4 n4 k4] 35)) := (Below.refl _ _).alloc (Nat.le_refl _) _
  have H : Hid (DBox (w.alloc (.cells #[.slice a1 n1 k1, .slice a2 n2 k2, .slice a3 n3 k3, .slice a4 n4 k4] 35)) w.heap.size ⟨⟨a1, n1, k1⟩, ⟨a2, n2, k2⟩, ⟨a3, n3, k3⟩, ⟨a4, n4, k4⟩⟩ ∧ DRd (w.alloc (.cells #[.slice a1 n1 k1, .slice a2 n2 k2, .slice a3 n3 k3, .slice a4 n4 k4] 35)) ⟨⟨a1, n1, k1⟩, ⟨a2, n2, k2⟩, ⟨a3, n3, k3⟩, ⟨a4, n4, k4⟩⟩ d ∧ Below w.heap.size w (w.alloc (.cells #[.slice a1 n1 k1, .slice a2 n2 k2, .slice a3 n3 k3, .slice a4 n4 k4] 35)) ∧ LayT (w.alloc (.cells #[.slice a1 n1 k1, .slice a2 n2 k2, .slice a3 n3 k3, .slice a4 n4 k4] 35))) := ⟨DBox.new w ⟨⟨a1, n1, k1⟩, ⟨a2, n2, k2⟩, ⟨a3, n3, k3⟩, ⟨a4, n4, k4⟩⟩, h.below hb0, hb0, hL.below hb0⟩
  have KC := Lib.hid (words_any t ⟨⟨a1, n1, k1⟩, ⟨a2, n2, k2⟩, ⟨a3, n3, k3⟩, ⟨a4, n4, k4⟩⟩ d (w.alloc (.cells #[.slice a1 n1 k1, .slice a2 n2 k2, .slice a3 n3 k3, .slice a4 n4 k4] 35)) H.out.2.1 hB H.out.2.2.2)
  clear h hL hb0 hB
  simp only at KC ⊢
  have HTR : Hid (textR t d = lb (xjoin 32 ((wordsR t d).map nums))) := rfl
  unfold WdPost at KC
  generalize wordsR t d = l at *
  go_enter Tryd.func21, Tryd.ntmps21
  have d0 := H.out.1.1
  have d1 := H.out.1.2.1
  have d2 := H.out.1.2.2.1
  have d3 := H.out.1.2.2.2.1
  simp only at d0 d1 d2 d3
  go_wp2_with fail
  generalize (w.alloc (.cells #[.slice a1 n1 k1, .slice a2 n2 k2, .slice a3 n3 k3, .slice a4 n4 k4] 35)) = wa at *
  refine KC.out.mono ?_
  rintro e w2 ⟨v, ys, rfl, H2⟩
  have HB2 := Lib.hid (H.out.2.2.1.trans (H2.out.2.2.mono H.out.2.2.1.size))
  obtain ⟨ao, rfl, hnil⟩ := H2.out.1.shape
  have KJ : Hid (Calls Tryd.prog 40 #[.slice ao l.length ys.length, .string ⟨#[32]⟩] w2 fun e w' => e = .returned (.string (textR t d)) ∧ Hid (Below w2.heap.size w2 w')) := by
    have hr := H2.out.1.rd l.length
    rw [H2.out.2.1] at hr
    have hs := H2.out.1.small H2.out.2.1
    have hm := xjoin_len 32 (l.map nums) 1000000 (by
      intro p hp
      obtain ⟨s, hs', rfl⟩ := List.mem_map.1 hp
      rw [nums_len]
      exact hs s hs')
    rw [List.length_map] at hm
    have hm2 : l.length * (1000000 + 1) ≤ 100000 * 1000001 := Nat.mul_le_mul_right _ hlw
    rw [HTR.out]
    exact join_any 32 ao l.length ys.length l w2 hr rfl H2.out.1.le.1 (by omega) (by show (xjoin 32 _).length ≤ _; omega)
  clear KC H2 hnil d0 d1 d2 d3 HTR
  generalize l.length = n at *
  generalize ys.length = yl at *
  obtain ⟨R, hR⟩ : ∃ R, textR t d = R := ⟨_, rfl⟩
  have HRR : Hid (textR t d = R) := hR
  rw [hR] at KJ
  clear hR
  go_wp2_with fail
  refine KJ.out.mono ?_
  rintro e w3 ⟨rfl, H3⟩
  have HB3 := Lib.hid (HB2.out.trans (H3.out.mono HB2.out.size))
  go_wp2_with fail
  go_ret2
  exact ⟨by rw [HRR.out]; rfl, HB3.out⟩
end Go.Proofs.YtoppdmlmhigogaaDoor
namespace Go.Proofs.YtoppdmlmhigogaaDoor
open Go.ChangeShapes Go.WideShapes Go.ChangeAt Go.RowKit
set_option linter.unusedVariables false
set_option linter.unusedSimpArgs false
instance (l : List Int) (k : Nat) : Decidable (okp l k) := by unfold okp; infer_instance
instance : DecidableEq Wd := inferInstance
end Go.Proofs.YtoppdmlmhigogaaDoor
namespace Go.Proofs.YtoppdmlmhigogaaDoor
open Go.ChangeShapes Go.WideShapes Go.ChangeAt Go.RowKit
set_option linter.unusedVariables false
set_option linter.unusedSimpArgs false
/-- A kind in a block of its own. -/
def Box (w : World) (b : Nat) (s pre : ByteArray) (most : Int) : Prop :=
  w.cell? ⟨b, 0, none⟩ = some (.string s) ∧ w.cell? ⟨b, 1, none⟩ = some (.string pre) ∧ w.cell? ⟨b, 2, none⟩ = some (.int .i64 most) ∧ b < w.heap.size
theorem Box.new (w : World) (s pre : ByteArray) (most : Int) : Box (w.alloc (.cells #[.string s, .string pre, .int .i64 most] 84)) w.heap.size s pre most := by
  refine ⟨?_, ?_, ?_, by simp⟩ <;> (unfold World.cell?; rw [heap_alloc_new]; rfl)
theorem Box.below {w w' : World} {b : Nat} {s pre : ByteArray} {most : Int} (h : Box w b s pre most) (hb : Below w.heap.size w w') : Box w' b s pre most :=
  ⟨(hb.cell (p := ⟨b, 0, none⟩) h.2.2.2).trans h.1, (hb.cell (p := ⟨b, 1, none⟩) h.2.2.2).trans h.2.1, (hb.cell (p := ⟨b, 2, none⟩) h.2.2.2).trans h.2.2.1, Nat.lt_of_lt_of_le h.2.2.2 hb.size⟩
theorem cat_txt (a : ByteArray) (l : List UInt8) : a ++ (⟨l.toArray⟩ : ByteArray) = ⟨(a.data.toList ++ l).toArray⟩ := by
  apply ByteArray.ext
  simp
end Go.Proofs.YtoppdmlmhigogaaDoor
namespace Go.Proofs.YtoppdmlmhigogaaDoor
open Go.ChangeShapes Go.WideShapes Go.ChangeAt Go.RowKit
set_option linter.unusedVariables false
set_option linter.unusedSimpArgs false
/-- The text of own words, the words with their numbers, the prefix. -/
def typesB : ByteArray := ⟨#[65, 32, 49, 32, 78, 83, 32, 50, 32, 67, 78, 65, 77, 69, 32, 53, 32, 83, 79, 65, 32, 54, 32, 80, 84, 82, 32, 49, 50, 32, 77, 88, 32, 49, 53, 32, 84, 88, 84, 32, 49, 54, 32, 65, 65, 65, 65, 32, 50, 56, 32, 83, 82, 86, 32, 51, 51, 32, 79, 80, 84, 32, 52, 49, 32, 65, 78, 89, 32, 50, 53, 53, 32, 67, 65, 65, 32, 50, 53, 55]⟩
def typesP : ByteArray := ⟨#[84, 89, 80, 69]⟩
def typesW : Own4 := [([65], 1), ([78, 83], 2), ([67, 78, 65, 77, 69], 5), ([83, 79, 65], 6), ([80, 84, 82], 12), ([77, 88], 15), ([84, 88, 84], 16), ([65, 65, 65, 65], 28), ([83, 82, 86], 33), ([79, 80, 84], 41), ([65, 78, 89], 255), ([67, 65, 65], 257)]
theorem typesOk : KOk typesB typesW := by
  refine ⟨by decide +kernel, ?_, ?_, by decide, by decide⟩
  · intro j b h
    have : ∀ x ∈ typesB.data.toList, x.toNat < 128 := by decide +kernel
    exact this b (List.mem_of_getElem? h)
  · have e : flatC typesW = [[65], [49], [78, 83], [50], [67, 78, 65, 77, 69], [53], [83, 79, 65], [54], [80, 84, 82], [49, 50], [77, 88], [49, 53], [84, 88, 84], [49, 54], [65, 65, 65, 65], [50, 56], [83, 82, 86], [51, 51], [79, 80, 84], [52, 49], [65, 78, 89], [50, 53, 53], [67, 65, 65], [50, 53, 55]] := by simp [flatC, typesW, dec_small, dec_big]
    rw [e]
    decide +kernel
set_option maxRecDepth 100000 in
set_option maxHeartbeats 1000000 in
theorem types_any (w : World) : Calls Tryd.prog 41 #[] w fun e w' => e = .returned (.agg #[.string typesB, .string typesP, .int .i64 (65535 : Nat)]) ∧ Hid (Below w.heap.size w w') := by
  go_enter Tryd.func41, Tryd.ntmps41
  go_wp2_with fail
  refine bodyPost_ret (v := .agg #[.string typesB, .string typesP, .int .i64 (65535 : Nat)]) (by simp [results, Tryd.results41, go_sem]; exact ⟨rfl, rfl⟩) rfl ⟨rfl, ?_⟩
  exact (Below.refl _ _).alloc (Nat.le_refl _) _
/-- The text of own words, the words with their numbers, the prefix. -/
def classesB : ByteArray := ⟨#[73, 78, 32, 49, 32, 67, 72, 32, 51, 32, 72, 83, 32, 52, 32, 78, 79, 78, 69, 32, 50, 53, 52, 32, 65, 78, 89, 32, 50, 53, 53]⟩
def classesP : ByteArray := ⟨#[67, 76, 65, 83, 83]⟩
def classesW : Own4 := [([73, 78], 1), ([67, 72], 3), ([72, 83], 4), ([78, 79, 78, 69], 254), ([65, 78, 89], 255)]
theorem classesOk : KOk classesB classesW := by
  refine ⟨by decide +kernel, ?_, ?_, by decide, by decide⟩
  · intro j b h
    have : ∀ x ∈ classesB.data.toList, x.toNat < 128 := by decide +kernel
    exact this b (List.mem_of_getElem? h)
  · have e : flatC classesW = [[73, 78], [49], [67, 72], [51], [72, 83], [52], [78, 79, 78, 69], [50, 53, 52], [65, 78, 89], [50, 53, 53]] := by simp [flatC, classesW, dec_small, dec_big]
    rw [e]
    decide +kernel
set_option maxRecDepth 100000 in
set_option maxHeartbeats 1000000 in
theorem classes_any (w : World) : Calls Tryd.prog 53 #[] w fun e w' => e = .returned (.agg #[.string classesB, .string classesP, .int .i64 (65535 : Nat)]) ∧ Hid (Below w.heap.size w w') := by
  go_enter Tryd.func53, Tryd.ntmps53
  go_wp2_with fail
  refine bodyPost_ret (v := .agg #[.string classesB, .string classesP, .int .i64 (65535 : Nat)]) (by simp [results, Tryd.results53, go_sem]; exact ⟨rfl, rfl⟩) rfl ⟨rfl, ?_⟩
  exact (Below.refl _ _).alloc (Nat.le_refl _) _
end Go.Proofs.YtoppdmlmhigogaaDoor
namespace Go.Proofs.YtoppdmlmhigogaaDoor
open Go.ChangeShapes Go.WideShapes Go.ChangeAt Go.RowKit
set_option linter.unusedVariables false
set_option linter.unusedSimpArgs false
def storedF (t : Int) : Bool := decide (t ≠ 0) && decide (t ≠ 41) && (decide (t < 128) || decide (255 < t))
set_option maxRecDepth 100000 in
set_option maxHeartbeats 1000000 in
theorem stored_any (t : Int) (w : World) : Calls Tryd.prog 16 #[.int .u16 t] w fun e w' => e = .returned (.bool (storedF t)) ∧ w' = w := by
  go_enter Tryd.func16, Tryd.ntmps16
  by_cases h0 : t = 0
  · subst h0
    go_wp2_with fail
    go_ret
    exact ⟨ret_bool (by decide), rfl⟩
  · by_cases h1 : t = 41
    · subst h1
      go_wp2_with fail
      go_ret
      exact ⟨ret_bool (by decide), rfl⟩
    · have q0 : (t == 0) = false := by simp [h0]
      have q1 : (t == 41) = false := by simp [h1]
      go_wp2_with fail
      refine (asked_any t w).mono ?_
      rintro e W ⟨rfl, rfl⟩
      go_wp2_with fail
      go_ret
      refine ⟨ret_bool ?_, rfl⟩
      simp [storedF, h0, h1]
      by_cases h2 : t < 128
      · simp [h2]; omega
      · by_cases h3 : 255 < t
        · simp [h3]; omega
        · simp [h2, h3]; omega
end Go.Proofs.YtoppdmlmhigogaaDoor
namespace Go.Proofs.YtoppdmlmhigogaaDoor
open Go.ChangeShapes Go.WideShapes Go.ChangeAt Go.RowKit
set_option linter.unusedVariables false
set_option linter.unusedSimpArgs false
def qz : Cf := ⟨0, 1, 0, [], 0, false, [], []⟩
end Go.Proofs.YtoppdmlmhigogaaDoor
namespace Go.Proofs.YtoppdmlmhigogaaDoor
open Go.ChangeShapes Go.WideShapes Go.ChangeAt Go.RowKit
set_option linter.unusedVariables false
set_option linter.unusedSimpArgs false
structure Rec where
  ow : List ByteArray
  t : Nat
  cl : Nat
  tt : Nat
  d : Dat
end Go.Proofs.YtoppdmlmhigogaaDoor
namespace Go.Proofs.YtoppdmlmhigogaaDoor
open Go.ChangeShapes Go.WideShapes Go.ChangeAt Go.RowKit
set_option linter.unusedVariables false
set_option linter.unusedSimpArgs false
theorem data_txt (s : ByteArray) : s.data.toList = txt (nums s) := by
  have := congrArg (fun b : ByteArray => b.data.toList) (txt_back s)
  simpa using this.symm
theorem data_of {s : ByteArray} {l : List Int} (h : nums s = l) : s.data.toList = txt l := by rw [data_txt, h]
theorem txt_app (a b : List Int) : txt (a ++ b) = txt a ++ txt b := by simp [txt]
/-- The text of labels, no . behind the last one. -/
def flatR : List ByteArray → List Int
  | [] => []
  | [s] => tx (nums s)
  | s :: t :: r => tx (nums s) ++ (46 :: flatR (t :: r))
theorem flat_flatR : ∀ l : List ByteArray, l ≠ [] → flat l = flatR l ++ [46]
  | [], h => absurd rfl h
  | [s], _ => by simp [flat, flatR]
  | s :: t :: r, _ => by
    have := flat_flatR (t :: r) (by simp)
    have e : flat (s :: t :: r) = tx (nums s) ++ [46] ++ flat (t :: r) := by simp [flat]
    rw [e, this]
    simp [flatR]
/-- A name's text without its last byte. -/
def relT (ss : List ByteArray) : ByteArray := ⟨(txt (flatR ss)).toArray⟩
/-- The text of a name that has labels is its relative text and a dot. -/
theorem text_rel (ss : List ByteArray) (h : nck ss = 0) (h0 : ss ≠ []) : (ntext ss).1 = relT ss ++ ⟨#[46]⟩ := by
  have e : (ntext ss).1 = ntxt ss := by
    unfold ntext
    rw [if_pos h, if_neg (fun e => h0 (List.eq_nil_of_length_eq_zero e))]
  rw [e]
  apply ba_inj
  rw [ba_toList, ba_toList, data_of (nums_ntxt ss), flat_flatR ss h0, txt_app]
  simp [relT, txt]
end Go.Proofs.YtoppdmlmhigogaaDoor
namespace Go.Proofs.YtoppdmlmhigogaaDoor
open Go.ChangeShapes Go.WideShapes Go.ChangeAt Go.RowKit
set_option linter.unusedVariables false
set_option linter.unusedSimpArgs false
theorem text_size {ss : List ByteArray} (h : nck ss = 0) : (ntext ss).1.size ≤ 1020 := by
  unfold ntext
  rw [if_pos h]
  split
  · decide
  · have h1 := ntxt_size ss ss.length (Nat.le_refl _)
    rw [List.take_length] at h1
    have := (nck_small h).1
    show (ntxt ss).size ≤ 1020
    omega
end Go.Proofs.YtoppdmlmhigogaaDoor
namespace Go.Proofs.YtoppdmlmhigogaaDoor
set_option linter.unusedVariables false
set_option linter.unusedSimpArgs false
def shF (n og : List ByteArray) : ByteArray :=
  if n = og then ⟨#[64]⟩
  else if og = [] ∨ n.length < og.length ∨ n.drop (n.length - og.length) ≠ og then (ntext n).1
  else relT (n.take (n.length - og.length))
theorem text_ne {ss : List ByteArray} (h : nck ss = 0) (h0 : ss ≠ []) : (ntext ss).1 = ntxt ss := by
  unfold ntext
  rw [if_pos h, if_neg (fun e => h0 (List.eq_nil_of_length_eq_zero e))]
theorem text_pos {ss : List ByteArray} (h : nck ss = 0) : 1 ≤ (ntext ss).1.size := by
  cases ss with
  | nil => unfold ntext; rw [if_pos h]; exact Nat.le_refl _
  | cons a r =>
    rw [text_rel _ h (by simp), ByteArray.size_append]
    exact Nat.le_add_left _ _
theorem flat_append (a b : List ByteArray) : flat (a ++ b) = flat a ++ flat b := by simp [flat]
theorem ntxt_sz (l : List ByteArray) : (ntxt l).size = (flat l).length := by
  rw [← nums_ntxt, nums_len]
theorem sh_len {n og : List ByteArray} (hn : nck n = 0) (hg : nck og = 0) : (shF n og).size ≤ (ntext n).1.size := by
  unfold shF
  split
  · exact text_pos hn
  · rename_i hne
    split
    · exact Nat.le_refl _
    · rename_i h
      simp only [not_or, Classical.not_not] at h
      obtain ⟨h1, h2, h3⟩ := h
      have hn2 : n.take (n.length - og.length) ++ og = n := by
        conv => rhs; rw [← List.take_append_drop (n.length - og.length) n, h3]
      have h0 : n.take (n.length - og.length) ≠ [] := fun e => hne (by rw [e] at hn2; exact hn2.symm)
      have hn0 : n ≠ [] := fun e => by rw [e] at h0; simp at h0
      have e1 := congrArg ByteArray.size (text_rel _ (nck_take n (n.length - og.length) hn) h0)
      rw [text_ne (nck_take n _ hn) h0, ntxt_sz, ByteArray.size_append] at e1
      have e2 : (flat n).length = (flat (n.take (n.length - og.length))).length + (flat og).length := by
        conv => lhs; rw [← hn2, flat_append]
        simp
      rw [text_ne hn hn0, ntxt_sz]
      have e3 : (⟨#[46]⟩ : ByteArray).size = 1 := rfl
      omega
end Go.Proofs.YtoppdmlmhigogaaDoor
namespace Go.Proofs.YtoppdmlmhigogaaDoor
set_option linter.unusedVariables false
set_option linter.unusedSimpArgs false
def blkP : Option (List ByteArray × Nat) → Rec → Bool
  | none, _ => false
  | some q, r => decide (q.1 = r.ow)
def clsP : Option (List ByteArray × Nat) → Rec → Bool
  | none, r => decide (r.cl ≠ 1)
  | some q, r => decide (q.2 ≠ r.cl)
end Go.Proofs.YtoppdmlmhigogaaDoor
namespace Go.Proofs.YtoppdmlmhigogaaDoor
open Go.Lib
set_option linter.unusedVariables false
set_option linter.unusedSimpArgs false
def tlT (n : Nat) : ByteArray := ⟨(decDigits n).toArray⟩
def tyW (n : Nat) : ByteArray := ⟨(tellF typesW typesP.data.toList n).toArray⟩
def clT (n : Nat) : ByteArray := if n = 255 then ⟨(classesP.data.toList ++ decDigits 255).toArray⟩ else ⟨(tellF classesW classesP.data.toList n).toArray⟩
end Go.Proofs.YtoppdmlmhigogaaDoor
namespace Go.Proofs.YtoppdmlmhigogaaDoor
open Go.Lib
set_option linter.unusedVariables false
set_option linter.unusedSimpArgs false
/-- Texts with a blank between each two. -/
def jn32 : List ByteArray → List UInt8
  | [] => []
  | [a] => a.data.toList
  | a :: b :: r => a.data.toList ++ 32 :: jn32 (b :: r)
/-- What stands behind the class: the type's word, the data's text. -/
def tailP (r : Rec) : List UInt8 := (tyW r.t).data.toList ++ 32 :: (jn32 (xwords r.t r.d) ++ [10])
/-- A record's line, as the document says it. -/
def lineP (r : Rec) : List UInt8 := (ntext r.ow).1.data.toList ++ 32 :: ((tlT r.tt).data.toList ++ 32 :: ((clT r.cl).data.toList ++ 32 :: tailP r))
/-- A record's line beside the record ahead. -/
def stepP (og : List ByteArray) (q : Option (List ByteArray × Nat)) (r : Rec) : List UInt8 :=
  (if blkP q r then [32] else (shF r.ow og).data.toList ++ [32]) ++ ((tlT r.tt).data.toList ++ 32 :: ((if clsP q r then (clT r.cl).data.toList ++ [32] else []) ++ tailP r))
/-- Records' text, as the document says it. -/
def textP (og : List ByteArray) : Option (List ByteArray × Nat) → List Rec → List UInt8
  | _, [] => []
  | q, r :: l => stepP og q r ++ textP og (some (r.ow, r.cl)) l
/-- $ORIGIN and a blank. -/
def cORGs : List UInt8 := [36, 79, 82, 73, 71, 73, 78, 32]
end Go.Proofs.YtoppdmlmhigogaaDoor
namespace Go.Proofs.YtoppdmlmhigogaaDoor
open Go.Lib
set_option linter.unusedVariables false
set_option maxRecDepth 100000
def lA : ByteArray := ⟨#[97]⟩
def lB : ByteArray := ⟨#[98]⟩
def exA : Rec := ⟨[lA, lB], 1, 1, 60, ⟨[], [], [], [1, 2, 3, 4]⟩⟩
def exT : Rec := ⟨[lA, lB], 16, 1, 60, ⟨[], [], [⟨#[120]⟩], []⟩⟩
def exC : Rec := ⟨[lB], 1, 3, 5, ⟨[], [], [], [1, 2, 3, 5]⟩⟩
end Go.Proofs.YtoppdmlmhigogaaDoor
namespace Go.Proofs.YtoppdmlmhigogaaDoor
open Go.Lib
set_option linter.unusedVariables false
set_option linter.unusedSimpArgs false
/-- P15.1: a record's error. -/
def wrongF (r : Rec) : Int :=
  if nck r.ow ≠ 0 then nck r.ow else if storedF r.t = false then 6 else if checkF r.t r.d ≠ 0 then checkF r.t r.d else if 2147483647 < r.tt then 2 else 0
def lineF (r : Rec) : List UInt8 × Int := if wrongF r = 0 then (lineP r, 0) else ([], wrongF r)
def wrongsF : List Rec → Int
  | [] => 0
  | r :: l => if wrongF r = 0 then wrongsF l else wrongF r
/-- The whole text. -/
def allP (og : List ByteArray) (l : List Rec) : List UInt8 := cORGs ++ ((ntext og).1.data.toList ++ 10 :: textP og none l)
/-- P15.2. -/
def paperF (og : List ByteArray) (l : List Rec) : List UInt8 × Int :=
  if nck og ≠ 0 then ([], nck og) else if 2048 < l.length then ([], 3) else if wrongsF l ≠ 0 then ([], wrongsF l) else if 65536 < (allP og l).length then ([], 3) else (allP og l, 0)
theorem wrongs_ok : ∀ {l : List Rec}, wrongsF l = 0 → ∀ r ∈ l, wrongF r = 0
  | [], _, r, hr => by cases hr
  | x :: l, h, r, hr => by
    unfold wrongsF at h
    split at h
    · rename_i h1
      rcases List.mem_cons.1 hr with rfl | hr
      · exact h1
      · exact wrongs_ok h r hr
    · rename_i h1; exact absurd h h1
end Go.Proofs.YtoppdmlmhigogaaDoor
namespace Go.Proofs.YtoppdmlmhigogaaDoor
open Go.ChangeShapes Go.WideShapes Go.ChangeAt Go.RowKit
set_option linter.unusedVariables false
set_option linter.unusedSimpArgs false
/-- Where a record's lists are. -/
structure RA where
  o : Sl
  d : DA
def recCells (x : RA) (r : Rec) : List Value := [.slice x.o.a x.o.n x.o.c, .int .u16 r.t, .int .u16 r.cl, .int .u32 r.tt, .slice x.d.p1.a x.d.p1.n x.d.p1.c, .slice x.d.p2.a x.d.p2.n x.d.p2.c, .slice x.d.p3.a x.d.p3.n x.d.p3.c, .slice x.d.p4.a x.d.p4.n x.d.p4.c]
def cellsR (ps : List (RA × Rec)) : List Value := ps.flatMap fun p => recCells p.1 p.2
theorem cellsR_at (ps : List (RA × Rec)) (k : Nat) (h : k < ps.length) (j : Nat) (hj : j < 8) : (cellsR ps)[k * 8 + j]? = (recCells ps[k].1 ps[k].2)[j]? := by
  induction ps generalizing k with
  | nil => simp at h
  | cons p ws ih =>
    have hc : cellsR (p :: ws) = recCells p.1 p.2 ++ cellsR ws := by simp [cellsR]
    have h8 : (recCells p.1 p.2).length = 8 := rfl
    rw [hc]
    cases k with
    | zero => rw [List.getElem?_append_left (by rw [h8]; omega)]; simp
    | succ k =>
      have := ih k (by simpa using h)
      rw [List.getElem?_append_right (by rw [h8]; omega), h8, show (k + 1) * 8 + j - 8 = k * 8 + j by omega, this]
      simp
def RRd (w : World) (x : RA) (r : Rec) : Prop := TRd w x.o r.ow ∧ DRd w x.d r.d
theorem RRd.below {w w' : World} {x : RA} {r : Rec} (h : RRd w x r) (hb : Below w.heap.size w w') : RRd w' x r := ⟨h.1.below hb, h.2.below hb⟩
/-- A list of records that can be read: eight cells each. -/
def RdR (w : World) (a : Option Addr) (rs : List Rec) : Prop :=
  rs = [] ∨ ∃ b o, a = some ⟨b, o, none⟩ ∧ b < w.heap.size ∧ ∀ i (h : i < rs.length), ∃ x : RA, (∀ j (hj : j < 8), w.cell? ⟨b, o + i * 8 + j, none⟩ = (recCells x rs[i])[j]?) ∧ RRd w x rs[i]
theorem RdR.below {w w' : World} {a : Option Addr} {rs : List Rec} (h : RdR w a rs) (hb : Below w.heap.size w w') : RdR w' a rs := by
  rcases h with h | ⟨b, o, h1, h2, h3⟩
  · exact .inl h
  · refine .inr ⟨b, o, h1, Nat.lt_of_lt_of_le h2 hb.size, fun i hi => ?_⟩
    obtain ⟨x, e1, e5⟩ := h3 i hi
    exact ⟨x, fun j hj => (hb.cell (p := ⟨b, o + i * 8 + j, none⟩) h2).trans (e1 j hj), e5.below hb⟩
theorem RdR.at {w : World} {a : Option Addr} {rs : List Rec} (h : RdR w a rs) (i : Nat) (hi : i < rs.length) : ∃ b o, a = some ⟨b, o, none⟩ ∧ b < w.heap.size ∧ ∃ x : RA, (∀ j (hj : j < 8), w.cell? ⟨b, o + i * 8 + j, none⟩ = (recCells x rs[i])[j]?) ∧ RRd w x rs[i] := by
  rcases h with h | ⟨b, o, h1, h2, h3⟩
  · subst h; simp at hi
  · exact ⟨b, o, h1, h2, h3 i hi⟩
end Go.Proofs.YtoppdmlmhigogaaDoor
namespace Go.Proofs.YtoppdmlmhigogaaDoor
open Go.ChangeShapes Go.WideShapes Go.ChangeAt Go.RowKit
set_option linter.unusedVariables false
set_option linter.unusedSimpArgs false
/-- A name that came in, of so many labels at most. -/
structure Nw (w : World) (a : Option Addr) (n : Nat) (ss : List ByteArray) : Prop where
  rd : RdT w a ss
  len : ss.length = n
  n3 : n ≤ 1000
  z63 : ∀ s ∈ ss, s.size ≤ 9223372036854775807
theorem Nw.below {w w' : World} {a : Option Addr} {n : Nat} {ss : List ByteArray} (h : Nw w a n ss) (hb : Below w.heap.size w w') : Nw w' a n ss := ⟨h.rd.below hb, h.len, h.n3, h.z63⟩
theorem nsz_lab : ∀ ss : List ByteArray, labsOk ss → nsz ss ≤ 1 + 64 * ss.length
  | [], _ => by simp [nsz]
  | s :: r, h => by
    have h1 := (chk_ok (h s (by simp))).2
    have h2 := nsz_lab r (fun x hx => h x (by simp [hx]))
    simp only [nsz, List.length_cons]
    omega
theorem Nw.nm {w : World} {a : Option Addr} {n : Nat} {ss : List ByteArray} (h : Nw w a n ss) (hk : nck ss = 0) : Nm w a n ss := ⟨h.rd, h.len, by have := (nck_small hk).1; omega⟩
theorem wcheck {w : World} {a : Option Addr} {n : Nat} {ss : List ByteArray} (c : Nat) (h : Nw w a n ss) : Calls Tryd.prog 13 #[.slice a n c] w fun e w' => e = .returned (.int .i64 (nck ss)) ∧ w' = w :=
  pcheck_wide a n c ss w h.rd h.len (fun ho => by have := nsz_lab ss ho; have := h.len; have := h.n3; omega) (by have := h.n3; omega) h.z63
end Go.Proofs.YtoppdmlmhigogaaDoor
namespace Go.Proofs.YtoppdmlmhigogaaDoor
open Go.ChangeShapes Go.WideShapes Go.ChangeAt Go.RowKit
set_option linter.unusedVariables false
set_option linter.unusedSimpArgs false
set_option maxRecDepth 100000 in
set_option maxHeartbeats 1000000 in
theorem cword_any (s pre : ByteArray) (most : Int) (ps : Own4) (n : Nat) (hn : n < 65536) (hpre : pre.size ≤ 100) (w : World) (hK : KOk s ps) (hL : LayT w) :
    Calls Tryd.prog 42 #[.agg #[.string s, .string pre, .int .i64 most], .int .i64 n] w fun e w' => e = .returned (.string ⟨(tellF ps pre.data.toList n).toArray⟩) ∧ Hid (Below w.heap.size w w') := by
  have HL : Hid (LayT w) := hL
  have HK : Hid (KOk s ps) := hK
  have HX : Hid (Box (w.alloc (.cells #[.string s, .string pre, .int .i64 most] 84)) w.heap.size s pre most) := Box.new w s pre most
  have HB : Hid (Below w.heap.size w (w.alloc (.cells #[.string s, .string pre, .int .i64 most] 84))) := (Below.refl _ _).alloc (Nat.le_refl _) _
  clear hL hK
  go_enter Tryd.func42, Tryd.ntmps42
  go_wp2_with fail
  generalize (w.alloc (.cells #[.string s, .string pre, .int .i64 most] 84)) = W1 at *
  refine (itoa_nat n (by omega) W1 (HL.out.below HB.out)).mono ?_
  rintro e W2 ⟨rfl, H2⟩
  have HX2 : Hid (Box W2 w.heap.size s pre most) := HX.out.below H2.out
  have HB2 : Hid (Below w.heap.size w W2) := HB.out.trans (H2.out.mono HB.out.size)
  have c0 := HX2.out.1
  clear HX HB H2
  go_wp2_with fail
  refine (fields_any s ps W2 HK.out (HL.out.below HB2.out)).mono ?_
  rintro e W3 ⟨rfl, H3⟩
  have HX3 : Hid (Box W3 w.heap.size s pre most) := HX2.out.below H3.out.1
  have HB3 : Hid (Below w.heap.size w W3) := HB2.out.trans (H3.out.1.mono HB2.out.size)
  have HC : Hid (∀ j p, ps[j]? = some p → W3.cell? ⟨W2.heap.size, 2 * j, none⟩ = some (.string ⟨p.1.toArray⟩) ∧ W3.cell? ⟨W2.heap.size, 2 * j + 1, none⟩ = some (.string ⟨(Lib.decDigits p.2).toArray⟩)) := H3.out.2
  have hN := HK.out.2.2.2.1
  obtain ⟨N, eN⟩ : ∃ N, ps.length = N := ⟨_, rfl⟩
  have HN : Hid (ps.length = N) := eN
  rw [eN] at hN ⊢
  clear c0 HX2 HB2 H3 eN HK
  generalize W2.heap.size = g at *
  go_wp2_with fail
  go_loopw [7] (fun x wr => wr = W3 ∧ ∃ j : Nat, j ≤ N ∧ x = .int .i64 ((2 * j + 1 : Nat) : Int) ∧ Hid (∀ p ∈ ps.take j, (p.2 == n) = false)) (fun x _ => 2 * N + 1 - (intOf x).toNat)
  case atStart => exact ⟨rfl, 0, Nat.zero_le _, rfl, by intro p hp; simp at hp⟩
  case round =>
    obtain ⟨rfl, j, hj, rfl, HF⟩ := hrel
    obtain ⟨i, ei⟩ : ∃ i : Nat, 2 * j + 1 = i := ⟨_, rfl⟩
    by_cases hlt : j < N
    · obtain ⟨p, hp⟩ : ∃ p, ps[j]? = some p := ⟨_, List.getElem?_eq_getElem (by rw [HN.out]; exact hlt)⟩
      obtain ⟨c1, c2⟩ := HC.out j p hp
      rw [ei] at c2 ⊢
      have hb1 : (i : Int) < ((2 * N : Nat) : Int) := by omega
      have hs1 : IntKind.i64.wrap ((i : Int) - 1) = ((2 * j : Nat) : Int) := by rw [IntKind.wrap_i64]; omega
      have hs2 : (((2 * j : Nat) : Int)) < ((2 * N : Nat) : Int) := by omega
      have HS : Hid (((p.2 == n) = true → ps.find? (fun q => q.2 == n) = some p) ∧ ((p.2 == n) = false → ∀ q ∈ ps.take (j + 1), (q.2 == n) = false)) := find_step (fun (q : List UInt8 × Nat) => q.2 == n) ps j HF.out p hp
      obtain ⟨m, hm⟩ : ∃ m, 2 * j = m := ⟨_, rfl⟩
      rw [hm] at c1 hs1 hs2
      by_cases he : p.2 = n
      · have hq : ((Lib.decDigits p.2) == (Lib.decDigits n)) = true := by rw [he]; simp
        go_wp2_with fail
        go_ret
        refine ⟨?_, HB3.out⟩
        have := HS.out.1 (by simp [he])
        simp [tellF, this]
      · have hq : ((Lib.decDigits p.2) == (Lib.decDigits n)) = false := by
          cases h : (Lib.decDigits p.2) == (Lib.decDigits n) with
          | false => rfl
          | true => exact absurd (dec_inj (eq_of_beq h)) he
        have HS2 : Hid (∀ q ∈ ps.take (j + 1), (q.2 == n) = false) := HS.out.2 (by simp [he])
        clear c1 hs1 hs2 HS he
        go_wp2_with fail
        refine ⟨⟨by first | rfl | trivial, j + 1, by omega, ?_, HS2⟩, ?_⟩
        · rw [← ei]; go_num
        · simp [intOf]; omega
    · have hjN : j = N := by omega
      have hb1 : ¬ (i : Int) < ((2 * N : Nat) : Int) := by omega
      have HT : Hid (ps.find? (fun (q : List UInt8 × Nat) => q.2 == n) = none) := find_end (fun (q : List UInt8 × Nat) => q.2 == n) ps j HF.out (by rw [HN.out]; omega)
      have c1 := HX3.out.2.1
      rw [ei]
      clear HF HC
      have hcat : ¬ 9223372036854775807 < pre.size + (Lib.decDigits n).length := by
        have := dec_len n (by omega)
        omega
      go_wp2_with fail
      go_ret
      refine ⟨?_, HB3.out⟩
      have := HT.out
      rw [cat_txt]
      simp [tellF, this]
set_option maxRecDepth 100000 in
set_option maxHeartbeats 1000000 in
theorem ctype_any (n : Nat) (hn : n < 65536) (w : World) (hL : LayT w) : Calls Tryd.prog 22 #[.int .u16 n] w fun e w' => e = .returned (.string ⟨(tellF typesW typesP.data.toList n).toArray⟩) ∧ Hid (Below w.heap.size w w') := by
  have HL : Hid (LayT w) := hL
  clear hL
  go_enter Tryd.func22, Tryd.ntmps22
  go_wp2_with fail
  refine (types_any w).mono ?_
  rintro e W1 ⟨rfl, H1⟩
  have hw : IntKind.i64.wrap (n : Int) = (n : Int) := by rw [IntKind.wrap_i64]; omega
  go_wp2_with fail
  refine (cword_any typesB typesP _ typesW n hn (by decide +kernel) W1 typesOk (HL.out.below H1.out)).mono ?_
  rintro e W2 ⟨rfl, H2⟩
  go_wp2_with fail
  go_ret
  exact ⟨rfl, H1.out.trans (H2.out.mono H1.out.size)⟩
set_option maxRecDepth 100000 in
set_option maxHeartbeats 1000000 in
theorem cclass_any (n : Nat) (hn : n < 65536) (w : World) (hL : LayT w) : Calls Tryd.prog 38 #[.int .u16 n] w fun e w' => e = .returned (.string ⟨(tellF classesW classesP.data.toList n).toArray⟩) ∧ Hid (Below w.heap.size w w') := by
  have HL : Hid (LayT w) := hL
  clear hL
  go_enter Tryd.func38, Tryd.ntmps38
  go_wp2_with fail
  refine (classes_any w).mono ?_
  rintro e W1 ⟨rfl, H1⟩
  have hw : IntKind.i64.wrap (n : Int) = (n : Int) := by rw [IntKind.wrap_i64]; omega
  go_wp2_with fail
  refine (cword_any classesB classesP _ classesW n hn (by decide +kernel) W1 classesOk (HL.out.below H1.out)).mono ?_
  rintro e W2 ⟨rfl, H2⟩
  go_wp2_with fail
  go_ret
  exact ⟨rfl, H1.out.trans (H2.out.mono H1.out.size)⟩
end Go.Proofs.YtoppdmlmhigogaaDoor
namespace Go.Proofs.YtoppdmlmhigogaaDoor
open Go.ChangeShapes Go.WideShapes Go.ChangeAt Go.RowKit
set_option linter.unusedVariables false
set_option linter.unusedSimpArgs false
theorem bx_cell {W : World} {D i : Nat} {cs : Array Value} {ty : TypeId} {v : Value} (hD : W.heap[D]? = some (.cells cs ty)) (hv : cs[i]? = some v) : W.cell? ⟨D, i, none⟩ = some v := by
  simp [World.cell?, hD, hv]
set_option maxRecDepth 100000 in
set_option maxHeartbeats 4000000 in
theorem check29_any (x : RA) (r : Rec) (w : World) (h : RRd w x r) (hn : x.o.n ≤ 1000) (hB : Bd r.d) :
    Calls Tryd.prog 9 #[.agg (recCells x r).toArray] w fun e w' => e = .returned (.int .i64 (wrongF r)) ∧ Hid (Below w.heap.size w w') := by
  obtain ⟨⟨oa, on, oc⟩, ⟨⟨a1, n1, k1⟩, ⟨a2, n2, k2⟩, ⟨a3, n3, k3⟩, ⟨a4, n4, k4⟩⟩⟩ := x
  obtain ⟨ow, t, cl, tt, d⟩ := r
  have hw : Nw w oa on ow := ⟨h.1.rd, h.1.len, hn, h.1.z63⟩
  have hb0 := new_below w (.cells #[.slice oa on oc, .int .u16 (t : Int), .int .u16 (cl : Int), .int .u32 (tt : Int), .slice a1 n1 k1, .slice a2 n2 k2, .slice a3 n3 k3, .slice a4 n4 k4] 37)
  have KN := Lib.hid (wcheck oc (hw.below hb0))
  have KS := Lib.hid (fun W => stored_any (t : Int) W)
  have KC := Lib.hid (check_any t ⟨⟨a1, n1, k1⟩, ⟨a2, n2, k2⟩, ⟨a3, n3, k3⟩, ⟨a4, n4, k4⟩⟩ d _ (h.2.below hb0) hB)
  have HB0 := Lib.hid hb0
  have HC3 : Hid (∀ W, Below (w.alloc (.cells #[.slice oa on oc, .int .u16 (t : Int), .int .u16 (cl : Int), .int .u32 (tt : Int), .slice a1 n1 k1, .slice a2 n2 k2, .slice a3 n3 k3, .slice a4 n4 k4] 37)).heap.size (w.alloc (.cells #[.slice oa on oc, .int .u16 (t : Int), .int .u16 (cl : Int), .int .u32 (tt : Int), .slice a1 n1 k1, .slice a2 n2 k2, .slice a3 n3 k3, .slice a4 n4 k4] 37)) W → W.cell? ⟨w.heap.size, 3, none⟩ = some (.int .u32 (tt : Int)) ∧ w.heap.size < W.heap.size) := fun W hW => by
    have h1 : (w.alloc (.cells #[.slice oa on oc, .int .u16 (t : Int), .int .u16 (cl : Int), .int .u32 (tt : Int), .slice a1 n1 k1, .slice a2 n2 k2, .slice a3 n3 k3, .slice a4 n4 k4] 37)).heap[w.heap.size]? = some (.cells #[.slice oa on oc, .int .u16 (t : Int), .int .u16 (cl : Int), .int .u32 (tt : Int), .slice a1 n1 k1, .slice a2 n2 k2, .slice a3 n3 k3, .slice a4 n4 k4] 37) := heap_alloc_new _ _
    have h2 := (hW.block w.heap.size (by simp)).trans h1
    exact ⟨bx_cell h2 rfl, (Array.getElem?_eq_some_iff.1 h2).1⟩
  have HR : Hid (wrongF ⟨ow, t, cl, tt, d⟩ = if nck ow ≠ 0 then nck ow else if storedF t = false then 6 else if checkF t d ≠ 0 then checkF t d else if 2147483647 < tt then 2 else 0) := rfl
  show Calls Tryd.prog 9 #[.agg #[.slice oa on oc, .int .u16 (t : Int), .int .u16 (cl : Int), .int .u32 (tt : Int), .slice a1 n1 k1, .slice a2 n2 k2, .slice a3 n3 k3, .slice a4 n4 k4]] w fun e w' => e = .returned (.int .i64 (wrongF ⟨ow, t, cl, tt, d⟩)) ∧ Hid (Below w.heap.size w w')
  rw [HR.out]
  clear h hb0 HR hw hn hB
  simp only at KC
  generalize checkF t d = q at *
  generalize storedF (t : Int) = sb at *
  generalize nck ow = k at *
  by_cases hk : k = 0
  · subst hk
    rw [if_neg (fun e => e rfl)]
    cases sb with
    | false =>
      rw [if_pos rfl]
      clear KC HC3
      go_enter Tryd.func9, Tryd.ntmps9
      go_wp2_with fail
      refine KN.out.mono ?_
      rintro e w1 ⟨rfl, rfl⟩
      go_wp2_with fail
      refine (KS.out _).mono ?_
      rintro e w1 ⟨rfl, rfl⟩
      go_wp2_with fail
      go_ret
      exact ⟨rfl, HB0.out⟩
    | true =>
      rw [if_neg (by decide)]
      by_cases hq : q = 0
      · subst hq
        rw [if_neg (fun e => e rfl)]
        by_cases ht : 2147483647 < tt
        · rw [if_pos ht]
          have ht' : (2147483647 : Int) < (tt : Int) := by omega
          go_enter Tryd.func9, Tryd.ntmps9
          go_wp2_with fail
          refine KN.out.mono ?_
          rintro e w1 ⟨rfl, rfl⟩
          go_wp2_with fail
          refine (KS.out _).mono ?_
          rintro e w1 ⟨rfl, rfl⟩
          go_wp2_with fail
          refine KC.out.mono ?_
          rintro e w2 ⟨rfl, H2⟩
          obtain ⟨c3, l3⟩ := HC3.out _ H2.out
          have HB := Lib.hid (HB0.out.trans (H2.out.mono HB0.out.size))
          go_wp2_with fail
          go_ret
          exact ⟨rfl, HB.out⟩
        · rw [if_neg ht]
          have ht' : ¬ (2147483647 : Int) < (tt : Int) := by omega
          go_enter Tryd.func9, Tryd.ntmps9
          go_wp2_with fail
          refine KN.out.mono ?_
          rintro e w1 ⟨rfl, rfl⟩
          go_wp2_with fail
          refine (KS.out _).mono ?_
          rintro e w1 ⟨rfl, rfl⟩
          go_wp2_with fail
          refine KC.out.mono ?_
          rintro e w2 ⟨rfl, H2⟩
          obtain ⟨c3, l3⟩ := HC3.out _ H2.out
          have HB := Lib.hid (HB0.out.trans (H2.out.mono HB0.out.size))
          go_wp2_with fail
          go_ret
          exact ⟨rfl, HB.out⟩
      · rw [if_pos hq]
        have hq' : (q != 0) = true := bne_iff_ne.2 hq
        clear HC3
        go_enter Tryd.func9, Tryd.ntmps9
        go_wp2_with fail
        refine KN.out.mono ?_
        rintro e w1 ⟨rfl, rfl⟩
        go_wp2_with fail
        refine (KS.out _).mono ?_
        rintro e w1 ⟨rfl, rfl⟩
        go_wp2_with fail
        refine KC.out.mono ?_
        rintro e w2 ⟨rfl, H2⟩
        have HB := Lib.hid (HB0.out.trans (H2.out.mono HB0.out.size))
        go_wp2_with fail
        go_ret
        exact ⟨rfl, HB.out⟩
  · rw [if_pos hk]
    have hq' : (k != 0) = true := bne_iff_ne.2 hk
    clear KC KS HC3
    go_enter Tryd.func9, Tryd.ntmps9
    go_wp2_with fail
    refine KN.out.mono ?_
    rintro e w1 ⟨rfl, rfl⟩
    go_wp2_with fail
    go_ret
    exact ⟨rfl, HB0.out⟩
set_option maxRecDepth 100000 in
set_option maxHeartbeats 1000000 in
theorem cword79_any (n : Nat) (hn : n < 65536) (w : World) (hL : LayT w) : Calls Tryd.prog 20 #[.int .u16 (n : Int)] w fun e w' => e = .returned (.string (clT n)) ∧ Hid (Below w.heap.size w w') := by
  by_cases h : n = 255
  · subst h
    have hR : clT 255 = ⟨#[67, 76, 65, 83, 83, 50, 53, 53]⟩ := by
      unfold clT
      rw [if_pos rfl]
      decide +kernel
    rw [hR]
    clear hL
    go_enter Tryd.func20, Tryd.ntmps20
    go_wp2_with fail
    go_ret
    exact ⟨rfl, Below.refl _ _⟩
  · have hR : clT n = ⟨(tellF classesW classesP.data.toList n).toArray⟩ := by unfold clT; rw [if_neg h]
    rw [hR]
    have KC := Lib.hid (cclass_any n hn w hL)
    generalize tellF classesW classesP.data.toList n = T at *
    have h' : ((n : Int) == 255) = false := by simp; omega
    clear hL
    go_enter Tryd.func20, Tryd.ntmps20
    go_wp2_with fail
    refine KC.out.mono ?_
    rintro e w1 ⟨rfl, H1⟩
    go_wp2_with fail
    go_ret
    exact ⟨rfl, H1.out⟩
end Go.Proofs.YtoppdmlmhigogaaDoor
namespace Go.Proofs.YtoppdmlmhigogaaDoor
open Go.ChangeShapes Go.WideShapes Go.ChangeAt Go.RowKit
set_option linter.unusedVariables false
set_option linter.unusedSimpArgs false
theorem lb_app5 (a b : List Int) : lb (a ++ b) = lb a ++ lb b := by
  apply ByteArray.ext
  simp [lb, txt]
theorem jn_lb : ∀ l : List ByteArray, (lb (xjoin 32 (l.map nums))).data.toList = jn32 l
  | [] => rfl
  | [a] => by show (lb (nums a)).data.toList = _; rw [lb_nums]; rfl
  | a :: b :: r => by
    have ih := jn_lb (b :: r)
    have e : xjoin 32 ((a :: b :: r).map nums) = nums a ++ ([32] ++ xjoin 32 ((b :: r).map nums)) := rfl
    rw [e, lb_app5, lb_app5, lb_nums]
    simp only [ByteArray.data_append, Array.toList_append, ih]
    rfl
theorem text_jn {t : Nat} {d : Dat} (hc : checkF t d = 0) : (textR t d).data.toList = jn32 (xwords t d) := by
  unfold textR wordsR
  rw [if_pos hc, jn_lb]
/-- A record's line behind the owner's text. -/
def midP (o : ByteArray) (cls : Bool) (r : Rec) : List UInt8 := o.data.toList ++ 32 :: ((tlT r.tt).data.toList ++ 32 :: ((if cls = true then (clT r.cl).data.toList ++ [32] else []) ++ tailP r))
/-- While a line is printed: the Builder, and the record's box. -/
structure PlS (w0 w : World) (b : Nat) (C : Array Value) (W : World) (l : List UInt8) : Prop where
  g : G2 w0.heap.size W b (Lib.byteCells l)
  lo : Below w0.heap.size w W
  of : OffB b w W
  bx : W.heap[w.heap.size]? = some (.cells C 37)
  hs : w0.heap.size ≤ W.heap.size
theorem PlS.go {w0 w W W' : World} {b : Nat} {C : Array Value} {l : List UInt8} (h : PlS w0 w b C W l) (hb : Below W.heap.size W W') : PlS w0 w b C W' l :=
  ⟨h.g.go hb, h.lo.trans (hb.mono h.hs), h.of.trans (OffB.of hb), (hb.block _ (lt_block h.bx)).trans h.bx, Nat.le_trans h.hs hb.size⟩
theorem PlS.put {w0 w W W' : World} {b : Nat} {C : Array Value} {l l' : List UInt8} (h : PlS w0 w b C W l) (hne : w.heap.size ≠ b) (h1 : G2 w0.heap.size W' b (Lib.byteCells l')) (h2 : Below w0.heap.size W W') (h3 : OffB b W W') : PlS w0 w b C W' l' :=
  ⟨h1, h.lo.trans h2, h.of.trans h3, h3 _ _ _ _ h.bx (by decide) hne, Nat.le_trans h.hs h2.size⟩
theorem PlS.cells {w0 w W : World} {b : Nat} {v0 v1 v2 v3 v4 v5 v6 v7 : Value} {l : List UInt8} (h : PlS w0 w b #[v0, v1, v2, v3, v4, v5, v6, v7] W l) :
    W.cell? ⟨w.heap.size, 0, none⟩ = some v0 ∧ W.cell? ⟨w.heap.size, 1, none⟩ = some v1 ∧ W.cell? ⟨w.heap.size, 2, none⟩ = some v2 ∧ W.cell? ⟨w.heap.size, 3, none⟩ = some v3 ∧ W.cell? ⟨w.heap.size, 4, none⟩ = some v4 ∧ W.cell? ⟨w.heap.size, 5, none⟩ = some v5 ∧ W.cell? ⟨w.heap.size, 6, none⟩ = some v6 ∧ W.cell? ⟨w.heap.size, 7, none⟩ = some v7 ∧ w.heap.size < W.heap.size :=
  ⟨bx_cell h.bx rfl, bx_cell h.bx rfl, bx_cell h.bx rfl, bx_cell h.bx rfl, bx_cell h.bx rfl, bx_cell h.bx rfl, bx_cell h.bx rfl, bx_cell h.bx rfl, lt_block h.bx⟩
theorem PlS.puts {w0 w W : World} {b n : Nat} {C : Array Value} {l : List UInt8} (h : PlS w0 w b C W l) (hb : w0.heap.size ≤ b) (hne : w.heap.size ≠ b) (ss : List ByteArray) (hn : ss.length = n) (hn2 : n ≤ 1000) (hl : l.length + (catP ss).length ≤ 140737488355328) :
    Calls Tryd.prog 18 #[.pointer (some ⟨b, 0, none⟩), .slice (some ⟨W.heap.size, 0, none⟩) n n] (W.alloc (.cells (tv ss).toArray 9)) fun e w' => e = .returned (.tuple #[]) ∧ Hid (PlS w0 w b C w' (l ++ catP ss)) := by
  have h2 := h.go (new_below W (.cells (tv ss).toArray 9))
  refine (put64_any w0.heap.size b W.heap.size 0 n l ss _ h2.g hb (PcT.new W ss) hn hn2 hl).mono ?_
  rintro e w' ⟨rfl, H⟩
  exact ⟨rfl, h2.put hne H.out.1 H.out.2.1 H.out.2.2⟩
set_option maxRecDepth 100000 in
set_option maxHeartbeats 4000000 in
theorem pline41_any (w0 w : World) (b : Nat) (l : List UInt8) (o : ByteArray) (x : RA) (r : Rec) (cls : Bool) (hb : w0.heap.size ≤ b) (hB : Below w0.heap.size w0 w) (hg : G2 w0.heap.size w b (Lib.byteCells l)) (hx : RRd w0 x r) (hL : LayT w0)
    (hc : checkF r.t r.d = 0) (hD : Bd r.d) (ht : r.t < 65536) (hcl : r.cl < 65536) (htt : r.tt < 4294967296) (hwl : (wordsR r.t r.d).length ≤ 100000) (hz : l.length + (midP o cls r).length ≤ 140737488355328) :
    Calls Tryd.prog 10 #[.pointer (some ⟨b, 0, none⟩), .string o, .agg (recCells x r).toArray, .bool cls] w fun e w' => e = .returned (.tuple #[]) ∧ Hid (G2 w0.heap.size w' b (Lib.byteCells (l ++ midP o cls r)) ∧ Below w0.heap.size w w' ∧ OffB b w w') := by
  obtain ⟨⟨oa, on, oc⟩, ⟨⟨a1, n1, k1⟩, ⟨a2, n2, k2⟩, ⟨a3, n3, k3⟩, ⟨a4, n4, k4⟩⟩⟩ := x
  obtain ⟨ow, t, cl, tt, d⟩ := r
  have hne : w.heap.size ≠ b := by obtain ⟨p, v, e⟩ := hg.at; have := lt_block e; omega
  have hbx : (w.alloc (.cells #[.slice oa on oc, .int .u16 (t : Int), .int .u16 (cl : Int), .int .u32 (tt : Int), .slice a1 n1 k1, .slice a2 n2 k2, .slice a3 n3 k3, .slice a4 n4 k4] 37)).heap[w.heap.size]? = some (.cells #[.slice oa on oc, .int .u16 (t : Int), .int .u16 (cl : Int), .int .u32 (tt : Int), .slice a1 n1 k1, .slice a2 n2 k2, .slice a3 n3 k3, .slice a4 n4 k4] 37) := heap_alloc_new _ _
  have H0 : Hid (PlS w0 w b #[.slice oa on oc, .int .u16 (t : Int), .int .u16 (cl : Int), .int .u32 (tt : Int), .slice a1 n1 k1, .slice a2 n2 k2, .slice a3 n3 k3, .slice a4 n4 k4] (w.alloc (.cells #[.slice oa on oc, .int .u16 (t : Int), .int .u16 (cl : Int), .int .u32 (tt : Int), .slice a1 n1 k1, .slice a2 n2 k2, .slice a3 n3 k3, .slice a4 n4 k4] 37)) l) := ⟨hg.go (new_below _ _), (new_below _ _).mono hB.size, OffB.of (new_below _ _), hbx, Nat.le_trans hB.size (new_below w (.cells #[.slice oa on oc, .int .u16 (t : Int), .int .u16 (cl : Int), .int .u32 (tt : Int), .slice a1 n1 k1, .slice a2 n2 k2, .slice a3 n3 k3, .slice a4 n4 k4] 37)).size⟩
  have HW : Hid (∀ W l', PlS w0 w b #[.slice oa on oc, .int .u16 (t : Int), .int .u16 (cl : Int), .int .u32 (tt : Int), .slice a1 n1 k1, .slice a2 n2 k2, .slice a3 n3 k3, .slice a4 n4 k4] W l' → RRd W ⟨⟨oa, on, oc⟩, ⟨⟨a1, n1, k1⟩, ⟨a2, n2, k2⟩, ⟨a3, n3, k3⟩, ⟨a4, n4, k4⟩⟩⟩ ⟨ow, t, cl, tt, d⟩ ∧ LayT W) := fun W l' h => ⟨hx.below (hB.trans h.lo), hL.below (hB.trans h.lo)⟩
  have KF := Lib.hid (fun W (h : PlS w0 w b #[.slice oa on oc, .int .u16 (t : Int), .int .u16 (cl : Int), .int .u32 (tt : Int), .slice a1 n1 k1, .slice a2 n2 k2, .slice a3 n3 k3, .slice a4 n4 k4] W l) => (fmt10 tt (by show tt < _; have : tt < 4294967296 := htt; omega) W (HW.out W l h).2).mono (R' := fun e w' => e = .returned (.string (tlT tt)) ∧ Hid (PlS w0 w b #[.slice oa on oc, .int .u16 (t : Int), .int .u16 (cl : Int), .int .u32 (tt : Int), .slice a1 n1 k1, .slice a2 n2 k2, .slice a3 n3 k3, .slice a4 n4 k4] w' l)) fun e w' q => ⟨q.1, h.go q.2.out⟩)
  have KC := Lib.hid (fun W {l'} (h : PlS w0 w b #[.slice oa on oc, .int .u16 (t : Int), .int .u16 (cl : Int), .int .u32 (tt : Int), .slice a1 n1 k1, .slice a2 n2 k2, .slice a3 n3 k3, .slice a4 n4 k4] W l') => (cword79_any cl hcl W (HW.out W l' h).2).mono (R' := fun e w' => e = .returned (.string (clT cl)) ∧ Hid (PlS w0 w b #[.slice oa on oc, .int .u16 (t : Int), .int .u16 (cl : Int), .int .u32 (tt : Int), .slice a1 n1 k1, .slice a2 n2 k2, .slice a3 n3 k3, .slice a4 n4 k4] w' l')) fun e w' q => ⟨q.1, h.go q.2.out⟩)
  have KT := Lib.hid (fun W l' (h : PlS w0 w b #[.slice oa on oc, .int .u16 (t : Int), .int .u16 (cl : Int), .int .u32 (tt : Int), .slice a1 n1 k1, .slice a2 n2 k2, .slice a3 n3 k3, .slice a4 n4 k4] W l') => (text13_any t ⟨⟨a1, n1, k1⟩, ⟨a2, n2, k2⟩, ⟨a3, n3, k3⟩, ⟨a4, n4, k4⟩⟩ d W (HW.out W l' h).1.2 hD (HW.out W l' h).2 hwl).mono (R' := fun e w' => e = .returned (.tuple #[.string (textR t d), .int .i64 0]) ∧ Hid (PlS w0 w b #[.slice oa on oc, .int .u16 (t : Int), .int .u16 (cl : Int), .int .u32 (tt : Int), .slice a1 n1 k1, .slice a2 n2 k2, .slice a3 n3 k3, .slice a4 n4 k4] w' l')) fun e w' q => ⟨by rw [q.1]; simp only at hc; rw [hc], h.go q.2.out⟩)
  have KY := Lib.hid (fun W l' (h : PlS w0 w b #[.slice oa on oc, .int .u16 (t : Int), .int .u16 (cl : Int), .int .u32 (tt : Int), .slice a1 n1 k1, .slice a2 n2 k2, .slice a3 n3 k3, .slice a4 n4 k4] W l') => (ctype_any t ht W (HW.out W l' h).2).mono (R' := fun e w' => e = .returned (.string (tyW t)) ∧ Hid (PlS w0 w b #[.slice oa on oc, .int .u16 (t : Int), .int .u16 (cl : Int), .int .u32 (tt : Int), .slice a1 n1 k1, .slice a2 n2 k2, .slice a3 n3 k3, .slice a4 n4 k4] w' l')) fun e w' q => ⟨q.1, h.go q.2.out⟩)
  have htx := text_jn (t := t) (d := d) hc
  have hcat1 : catP [o, ⟨#[32]⟩, tlT tt, ⟨#[32]⟩] = o.data.toList ++ 32 :: ((tlT tt).data.toList ++ [32]) := by simp [catP]
  have hcat2 : catP [clT cl, ⟨#[32]⟩] = (clT cl).data.toList ++ [32] := by simp [catP]
  have hcat3 : catP [tyW t, ⟨#[32]⟩, textR t d, ⟨#[10]⟩] = tailP ⟨ow, t, cl, tt, d⟩ := by unfold tailP; simp [catP, htx]
  have htt' : IntKind.u64.wrap (tt : Int) = (tt : Int) := by have : tt < 4294967296 := htt; rw [IntKind.wrap_u64]; omega
  have c3 : (w.alloc (.cells #[.slice oa on oc, .int .u16 (t : Int), .int .u16 (cl : Int), .int .u32 (tt : Int), .slice a1 n1 k1, .slice a2 n2 k2, .slice a3 n3 k3, .slice a4 n4 k4] 37)).cell? ⟨w.heap.size, 3, none⟩ = some (.int .u32 (tt : Int)) := bx_cell hbx rfl
  have l0 := lt_block hbx
  show Calls Tryd.prog 10 #[.pointer (some ⟨b, 0, none⟩), .string o, .agg #[.slice oa on oc, .int .u16 (t : Int), .int .u16 (cl : Int), .int .u32 (tt : Int), .slice a1 n1 k1, .slice a2 n2 k2, .slice a3 n3 k3, .slice a4 n4 k4], .bool cls] w _
  cases cls with
  | true =>
    have hlen : l.length + ((catP [o, ⟨#[32]⟩, tlT tt, ⟨#[32]⟩]).length + ((catP [clT cl, ⟨#[32]⟩]).length + (catP [tyW t, ⟨#[32]⟩, textR t d, ⟨#[10]⟩]).length)) ≤ 140737488355328 := by
      rw [hcat1, hcat2, hcat3]; unfold midP at hz; rw [if_pos rfl] at hz; simp only [List.length_append, List.length_cons, List.length_nil] at hz ⊢; omega
    have HE : Hid (l ++ midP o true ⟨ow, t, cl, tt, d⟩ = l ++ catP [o, ⟨#[32]⟩, tlT tt, ⟨#[32]⟩] ++ catP [clT cl, ⟨#[32]⟩] ++ catP [tyW t, ⟨#[32]⟩, textR t d, ⟨#[10]⟩]) := by
      show _ = _
      rw [hcat1, hcat2, hcat3]; unfold midP; rw [if_pos rfl]; simp
    have KP1 := Lib.hid (fun W (h : PlS w0 w b #[.slice oa on oc, .int .u16 (t : Int), .int .u16 (cl : Int), .int .u32 (tt : Int), .slice a1 n1 k1, .slice a2 n2 k2, .slice a3 n3 k3, .slice a4 n4 k4] W l) => h.puts (n := 4) hb hne [o, ⟨#[32]⟩, tlT tt, ⟨#[32]⟩] rfl (by omega) (by omega))
    have KP2 := Lib.hid (fun W (h : PlS w0 w b #[.slice oa on oc, .int .u16 (t : Int), .int .u16 (cl : Int), .int .u32 (tt : Int), .slice a1 n1 k1, .slice a2 n2 k2, .slice a3 n3 k3, .slice a4 n4 k4] W (l ++ catP [o, ⟨#[32]⟩, tlT tt, ⟨#[32]⟩])) => h.puts (n := 2) hb hne [clT cl, ⟨#[32]⟩] rfl (by omega) (by rw [List.length_append]; omega))
    have KP3 := Lib.hid (fun W (h : PlS w0 w b #[.slice oa on oc, .int .u16 (t : Int), .int .u16 (cl : Int), .int .u32 (tt : Int), .slice a1 n1 k1, .slice a2 n2 k2, .slice a3 n3 k3, .slice a4 n4 k4] W (l ++ catP [o, ⟨#[32]⟩, tlT tt, ⟨#[32]⟩] ++ catP [clT cl, ⟨#[32]⟩])) => h.puts (n := 4) hb hne [tyW t, ⟨#[32]⟩, textR t d, ⟨#[10]⟩] rfl (by omega) (by rw [List.length_append, List.length_append]; omega))
    simp only [tv, List.map_cons, List.map_nil] at KP1 KP2 KP3
    generalize catP [o, ⟨#[32]⟩, tlT tt, ⟨#[32]⟩] = q1 at *
    generalize catP [clT cl, ⟨#[32]⟩] = q2 at *
    generalize catP [tyW t, ⟨#[32]⟩, textR t d, ⟨#[10]⟩] = q3 at *
    generalize midP o true ⟨ow, t, cl, tt, d⟩ = q at *
    generalize tlT tt = TL at *
    generalize clT cl = CL at *
    generalize tyW t = TY at *
    generalize textR t d = TX at *
    clear hcat1 hcat2 hcat3 htx hlen hz hx hL HW hg hbx hc hD
    go_enter Tryd.func10, Tryd.ntmps10
    go_wp2_with fail
    refine (KF.out _ H0.out).mono ?_
    rintro e w2 ⟨rfl, H2⟩
    clear c3 l0
    go_wp2_with fail
    refine (KP1.out _ H2.out).mono ?_
    rintro e w3 ⟨rfl, H3⟩
    obtain ⟨d0, d1, d2, d3, d4, d5, d6, d7, l3⟩ := H3.out.cells
    go_wp2_with fail
    refine (KC.out _ H3.out).mono ?_
    rintro e w4 ⟨rfl, H4⟩
    clear d0 d1 d2 d3 d4 d5 d6 d7 l3
    go_wp2_with fail
    refine (KP2.out _ H4.out).mono ?_
    rintro e w5 ⟨rfl, H5⟩
    obtain ⟨d0, d1, d2, d3, d4, d5, d6, d7, l3⟩ := H5.out.cells
    go_wp2_with fail
    refine (KT.out _ _ H5.out).mono ?_
    rintro e w6 ⟨rfl, H6⟩
    clear d0 d1 d2 d3 d4 d5 d6 d7 l3
    obtain ⟨d0, d1, d2, d3, d4, d5, d6, d7, l3⟩ := H6.out.cells
    go_wp2_with fail
    refine (KY.out _ _ H6.out).mono ?_
    rintro e w7 ⟨rfl, H7⟩
    clear d0 d1 d2 d3 d4 d5 d6 d7 l3
    go_wp2_with fail
    refine (KP3.out _ H7.out).mono ?_
    rintro e w8 ⟨rfl, H8⟩
    go_wp2_with fail
    go_end0
    refine ⟨rfl, ?_⟩
    have h8 := H8.out
    rw [← HE.out] at h8
    exact ⟨h8.g, h8.lo, h8.of⟩
  | false =>
    have hlen : l.length + ((catP [o, ⟨#[32]⟩, tlT tt, ⟨#[32]⟩]).length + (catP [tyW t, ⟨#[32]⟩, textR t d, ⟨#[10]⟩]).length) ≤ 140737488355328 := by
      rw [hcat1, hcat3]; unfold midP at hz; rw [if_neg (by decide)] at hz; simp only [List.length_append, List.length_cons, List.length_nil] at hz ⊢; omega
    have HE : Hid (l ++ midP o false ⟨ow, t, cl, tt, d⟩ = l ++ catP [o, ⟨#[32]⟩, tlT tt, ⟨#[32]⟩] ++ catP [tyW t, ⟨#[32]⟩, textR t d, ⟨#[10]⟩]) := by
      show _ = _
      rw [hcat1, hcat3]; unfold midP; rw [if_neg (by decide)]; simp
    have KP1 := Lib.hid (fun W (h : PlS w0 w b #[.slice oa on oc, .int .u16 (t : Int), .int .u16 (cl : Int), .int .u32 (tt : Int), .slice a1 n1 k1, .slice a2 n2 k2, .slice a3 n3 k3, .slice a4 n4 k4] W l) => h.puts (n := 4) hb hne [o, ⟨#[32]⟩, tlT tt, ⟨#[32]⟩] rfl (by omega) (by omega))
    have KP3 := Lib.hid (fun W (h : PlS w0 w b #[.slice oa on oc, .int .u16 (t : Int), .int .u16 (cl : Int), .int .u32 (tt : Int), .slice a1 n1 k1, .slice a2 n2 k2, .slice a3 n3 k3, .slice a4 n4 k4] W (l ++ catP [o, ⟨#[32]⟩, tlT tt, ⟨#[32]⟩])) => h.puts (n := 4) hb hne [tyW t, ⟨#[32]⟩, textR t d, ⟨#[10]⟩] rfl (by omega) (by rw [List.length_append]; omega))
    simp only [tv, List.map_cons, List.map_nil] at KP1 KP3
    generalize catP [o, ⟨#[32]⟩, tlT tt, ⟨#[32]⟩] = q1 at *
    generalize catP [tyW t, ⟨#[32]⟩, textR t d, ⟨#[10]⟩] = q3 at *
    generalize midP o false ⟨ow, t, cl, tt, d⟩ = q at *
    generalize tlT tt = TL at *
    generalize clT cl = CL at *
    generalize tyW t = TY at *
    generalize textR t d = TX at *
    clear hcat1 hcat2 hcat3 htx hlen hz hx hL HW hg hbx hc hD KC
    go_enter Tryd.func10, Tryd.ntmps10
    go_wp2_with fail
    refine (KF.out _ H0.out).mono ?_
    rintro e w2 ⟨rfl, H2⟩
    clear c3 l0
    go_wp2_with fail
    refine (KP1.out _ H2.out).mono ?_
    rintro e w3 ⟨rfl, H3⟩
    obtain ⟨d0, d1, d2, d3, d4, d5, d6, d7, l3⟩ := H3.out.cells
    go_wp2_with fail
    refine (KT.out _ _ H3.out).mono ?_
    rintro e w6 ⟨rfl, H6⟩
    clear d0 d1 d2 d3 d4 d5 d6 d7 l3
    obtain ⟨d0, d1, d2, d3, d4, d5, d6, d7, l3⟩ := H6.out.cells
    go_wp2_with fail
    refine (KY.out _ _ H6.out).mono ?_
    rintro e w7 ⟨rfl, H7⟩
    clear d0 d1 d2 d3 d4 d5 d6 d7 l3
    go_wp2_with fail
    refine (KP3.out _ H7.out).mono ?_
    rintro e w8 ⟨rfl, H8⟩
    go_wp2_with fail
    go_end0
    refine ⟨rfl, ?_⟩
    have h8 := H8.out
    rw [← HE.out] at h8
    exact ⟨h8.g, h8.lo, h8.of⟩
end Go.Proofs.YtoppdmlmhigogaaDoor
namespace Go.Proofs.YtoppdmlmhigogaaDoor
open Go.ChangeShapes Go.WideShapes Go.ChangeAt Go.RowKit
set_option linter.unusedVariables false
set_option linter.unusedSimpArgs false
theorem tl_ne {s t : ByteArray} (h : s ≠ t) : (s.toList == t.toList) = false := by
  rw [beq_eq_false_iff_ne]
  intro e
  rw [ba_toList, ba_toList] at e
  apply h
  cases s; cases t
  congr 1
  exact Array.toList_inj.1 e
set_option maxRecDepth 100000 in
set_option maxHeartbeats 2000000 in
theorem eq75_any (a b : Option Addr) (n m c d : Nat) (ss ts : List ByteArray) (w : World) (hr : RdT w a ss) (hr' : RdT w b ts) (hl : ss.length = n) (hl' : ts.length = m) (hn : n ≤ 9223372036854775807) (hm : m ≤ 9223372036854775807) :
    Calls Tryd.prog 26 #[.slice a n c, .slice b m d] w fun e w' => e = .returned (.bool (decide (ss = ts))) ∧ Hid (Below w.heap.size w w') := by
  by_cases hq : n = m
  · subst hq
    have HR : Hid (RdT w a ss ∧ RdT w b ts) := ⟨hr, hr'⟩
    have HL : Hid (ss.length = n ∧ ts.length = n) := ⟨hl, hl'⟩
    obtain ⟨D, hD⟩ : ∃ D, decide (ss = ts) = D := ⟨_, rfl⟩
    have HD : Hid (decide (ss = ts) = D) := hD
    rw [hD]
    clear hr hr' hl hl' hD
    go_enter Tryd.func26, Tryd.ntmps26
    go_wp2_with fail
    go_loopw [13] (fun x wr => ∃ k : Nat, k ≤ n ∧ x = .int .i64 k ∧ Hid (Below w.heap.size w wr) ∧ Hid (ss.take k = ts.take k)) (fun x _ => n - (intOf x).toNat)
    case atStart => exact ⟨0, Nat.zero_le _, rfl, Below.refl _ _, (by show _ = _; simp)⟩
    case round =>
      obtain ⟨k, hk, rfl, HB, HT⟩ := hrel
      by_cases hlt : k < n
      · have hlt' : (k : Int) < (n : Int) := by omega
        have hks : k < ss.length := by rw [HL.out.1]; exact hlt
        have hkt : k < ts.length := by rw [HL.out.2]; exact hlt
        obtain ⟨b1, o1, rfl, l1, c1⟩ := (HR.out.1.below HB.out).at k hks
        obtain ⟨b2, o2, rfl, l2, c2⟩ := (HR.out.2.below HB.out).at k hkt
        by_cases hst : ss[k] = ts[k]
        · have HT2 : Hid (ss.take (k + 1) = ts.take (k + 1)) := by show _ = _; rw [List.take_succ_eq_append_getElem hks, List.take_succ_eq_append_getElem hkt, HT.out, hst]
          rw [hst] at c1
          clear hst HT
          generalize ts[k] = s at *
          go_wp2_with fail
          go_quiet (fail)
          have HB2 : Hid (Below w.heap.size w (wr.drewN nq)) := HB.out.trans ⟨rfl, rfl, rfl, Nat.le_refl _, fun _ _ => rfl⟩
          clear c1 c2
          generalize wr.drewN nq = W2 at *
          go_wp2
          exact ⟨⟨k + 1, by omega, by go_num, HB2, HT2⟩, by simp [intOf]; omega⟩
        · have hqb := tl_ne hst
          have HF : Hid (D = false) := by
            show _ = _
            rw [← HD.out]
            simp only [decide_eq_false_iff_not]
            intro e
            subst e
            exact hst rfl
          clear hst HT
          generalize ss[k] = s at *
          generalize ts[k] = t at *
          go_wp2_with fail
          go_quiet (fail)
          have HB2 : Hid (Below w.heap.size w (wr.drewN nq)) := HB.out.trans ⟨rfl, rfl, rfl, Nat.le_refl _, fun _ _ => rfl⟩
          clear c1 c2
          generalize wr.drewN nq = W2 at *
          go_wp2_with fail
          go_ret
          exact ⟨by rw [HF.out]; rfl, HB2.out⟩
      · have hge : ¬ (k : Int) < (n : Int) := by omega
        have HF : Hid (D = true) := by
          show _ = _
          rw [← HD.out]
          have h := HT.out
          rw [List.take_of_length_le (by rw [HL.out.1]; omega), List.take_of_length_le (by rw [HL.out.2]; omega)] at h
          simp [h]
        go_wp2_with fail
        go_ret
        exact ⟨by rw [HF.out]; rfl, HB.out⟩
  · have hq' : ((n : Int) != (m : Int)) = true := by simp; omega
    have hq2 : ¬ (n : Int) = (m : Int) := by omega
    have HF : Hid (decide (ss = ts) = false) := by
      show _ = _
      simp only [decide_eq_false_iff_not]
      intro e
      exact hq (by rw [← hl, ← hl', e])
    rw [HF.out]
    clear hr hr' hl hl'
    go_enter Tryd.func26, Tryd.ntmps26
    go_wp2_with fail
    go_ret
    exact ⟨rfl, Below.refl _ _⟩
end Go.Proofs.YtoppdmlmhigogaaDoor
namespace Go.Proofs
open Go.Shelf
end Go.Proofs
namespace Go.Proofs.YtoppdmlmhigogaaDoor
open Go.ChangeShapes Go.WideShapes Go.ChangeAt Go.RowKit
set_option linter.unusedVariables false
set_option linter.unusedSimpArgs false
set_option maxRecDepth 100000 in
theorem text42_any (a : Option Addr) (n c : Nat) (ss : List ByteArray) (w : World) (h : Nm w a n ss) :
    Calls Tryd.prog 11 #[.slice a n c] w fun e w' => e = .returned (.string (ntext ss).1) ∧ Hid (Below w.heap.size w w') := by
  have K := Lib.hid (ptext_any a n c ss w h)
  generalize ntext ss = T at *
  clear h
  go_enter Tryd.func11, Tryd.ntmps11
  go_wp2_with fail
  refine K.out.mono ?_
  rintro e w1 ⟨rfl, H1⟩
  go_wp2_with fail
  go_ret
  exact ⟨rfl, H1.out⟩
theorem trim_rel {ss : List ByteArray} (h : nck ss = 0) (h0 : ss ≠ []) : (⟨(Lib.trimSuffix (ntext ss).1.data.toList (⟨#[46]⟩ : ByteArray).data.toList).toArray⟩ : ByteArray) = relT ss := by
  have e := text_rel ss h h0
  have e2 : (ntext ss).1.data.toList = (relT ss).data.toList ++ [46] := by rw [e]; simp
  rw [e2]
  have e3 : Lib.trimSuffix ((relT ss).data.toList ++ [46]) (⟨#[46]⟩ : ByteArray).data.toList = (relT ss).data.toList := by
    unfold Lib.trimSuffix Lib.hasSuffix
    simp
  rw [e3]
theorem nm_take {w : World} {a : Option Addr} {n : Nat} {ss : List ByteArray} (h : Nm w a n ss) (p : Nat) (hp : p ≤ n) : Nm w a p (ss.take p) := by
  refine ⟨?_, by rw [List.length_take, h.len]; omega, Nat.le_trans (by
    have e := List.take_append_drop p ss
    have : nsz ss = nsz (ss.take p ++ ss.drop p) := by rw [e]
    rw [this]
    clear e this
    induction ss.take p with
    | nil => simp only [List.nil_append]; have := nsz_len (ss.drop p); simp only [nsz]; omega
    | cons x l ih => simp only [List.cons_append, nsz]; omega) h.sz⟩
  rcases h.rd with h1 | ⟨b, o, h1, h2, h3⟩
  · left
    have : ss = [] := by
      have := congrArg List.length h1
      rw [tv_len] at this
      exact List.length_eq_zero_iff.1 this
    rw [this]; simp [tv]
  · refine .inr ⟨b, o, h1, h2, fun i hi => ?_⟩
    have hi2 : i < (tv ss).length := by rw [tv_len] at hi ⊢; rw [List.length_take] at hi; omega
    rw [h3 i hi2]
    simp [tv]
set_option maxRecDepth 100000 in
set_option maxHeartbeats 4000000 in
/-- Under the root. -/
theorem short_root (a b : Option Addr) (n c d : Nat) (ss : List ByteArray) (w : World) (h : Nm w a n ss) (hk : nck ss = 0) (hc : n ≤ c ∧ c ≤ 9223372036854775807) (hna : a = none → c = 0) :
    Calls Tryd.prog 14 #[.slice a n c, .slice b 0 d] w fun e w' => e = .returned (.string (shF ss [])) ∧ Hid (Below w.heap.size w w') := by
  have KE : Hid (∀ W a' c', Calls Tryd.prog 26 #[.slice a' 0 c', .slice b 0 d] W fun e w' => e = .returned (.bool true) ∧ Hid (Below W.heap.size W w')) := fun W a' c' => by
    have := eq75_any a' b 0 0 c' d [] [] W (.inl rfl) (.inl rfl) rfl rfl (by omega) (by omega)
    simpa using this
  have HN := Lib.hid h
  have hn := h.n63
  have hl := h.len
  by_cases h0 : n = 0
  · subst h0
    have hs : ss = [] := List.eq_nil_of_length_eq_zero hl
    subst hs
    have hR : shF [] [] = ⟨#[64]⟩ := by unfold shF; rw [if_pos rfl]
    rw [hR]
    clear hR hl
    have c0 : (0 : Int) ≤ (c : Int) := by omega
    cases a with
    | none =>
      have hc0 := hna rfl
      subst hc0
      go_enter Tryd.func14, Tryd.ntmps14
      go_wp2_with fail
      refine (KE.out _ _ _).mono ?_
      rintro e w1 ⟨rfl, H1⟩
      go_wp2_with fail
      go_ret
      exact ⟨rfl, H1.out⟩
    | some x =>
      by_cases hc0 : c = 0
      · subst hc0
        go_enter Tryd.func14, Tryd.ntmps14
        go_wp2_with fail
        refine (KE.out _ _ _).mono ?_
        rintro e w1 ⟨rfl, H1⟩
        go_wp2_with fail
        go_ret
        exact ⟨rfl, H1.out⟩
      · go_enter Tryd.func14, Tryd.ntmps14
        go_wp2_with fail
        refine (KE.out _ _ _).mono ?_
        rintro e w1 ⟨rfl, H1⟩
        go_wp2_with fail
        go_ret
        exact ⟨rfl, H1.out⟩
  · have hR : shF ss [] = (ntext ss).1 := by
      unfold shF
      rw [if_neg (fun e => h0 (by rw [← hl, e]; rfl)), if_pos (.inl rfl)]
    rw [hR]
    obtain ⟨x1, x2, rfl, _, _⟩ := h.rd.at 0 (by rw [hl]; omega)
    have KT := Lib.hid (fun W (hW : Below w.heap.size w W) => text42_any (some ⟨x1, x2, none⟩) n c ss W ⟨h.rd.below hW, h.len, h.sz⟩)
    generalize ntext ss = T at *
    have i0 : (n : Int) - 0 = (n : Int) := by omega
    have i1 : ¬ (n : Int) < 0 := by omega
    have i2 : ((n : Int) == 0) = false := by simp; omega
    have i3 : (n : Int) ≤ (c : Int) := by omega
    have i4 : n - n = 0 := by omega
    clear hR h HN hk hna
    by_cases hcn : c = n
    · subst hcn
      go_enter Tryd.func14, Tryd.ntmps14
      go_wp2_with fail
      refine (KE.out _ _ _).mono ?_
      rintro e w1 ⟨rfl, H1⟩
      go_wp2_with fail
      refine (KT.out _ H1.out).mono ?_
      rintro e w2 ⟨rfl, H2⟩
      go_wp2_with fail
      go_ret
      exact ⟨rfl, H1.out.trans (H2.out.mono H1.out.size)⟩
    · go_enter Tryd.func14, Tryd.ntmps14
      go_wp2_with fail
      refine (KE.out _ _ _).mono ?_
      rintro e w1 ⟨rfl, H1⟩
      go_wp2_with fail
      refine (KT.out _ H1.out).mono ?_
      rintro e w2 ⟨rfl, H2⟩
      go_wp2_with fail
      go_ret
      exact ⟨rfl, H1.out.trans (H2.out.mono H1.out.size)⟩
set_option maxRecDepth 100000 in
set_option maxHeartbeats 4000000 in
theorem short39_any (a b : Option Addr) (n m c d : Nat) (ss og : List ByteArray) (w : World) (h : Nm w a n ss) (h' : Nm w b m og) (hk : nck ss = 0) (hg : nck og = 0) (hc : n ≤ c ∧ c ≤ 9223372036854775807) (hna : a = none → c = 0) :
    Calls Tryd.prog 14 #[.slice a n c, .slice b m d] w fun e w' => e = .returned (.string (shF ss og)) ∧ Hid (Below w.heap.size w w') := by
  have hl := h.len
  have hl' := h'.len
  by_cases hm0 : m = 0
  · subst hm0
    have ho : og = [] := List.eq_nil_of_length_eq_zero hl'
    subst ho
    exact short_root a b n c d ss w h hk hc hna
  have hn := h.n63
  have hm := h'.n63
  have hog : og ≠ [] := fun e => hm0 (by rw [← hl', e]; rfl)
  have KT := Lib.hid (fun W (hW : Below w.heap.size w W) => text42_any a n c ss W ⟨h.rd.below hW, h.len, h.sz⟩)
  by_cases hlt : n < m
  · have hR : shF ss og = (ntext ss).1 := by
      unfold shF
      rw [if_neg (fun e => by rw [e, hl'] at hl; omega), if_pos (.inr (.inl (by omega)))]
    rw [hR]
    have i1 : (n : Int) - (m : Int) < 0 := by omega
    have i2 : -9223372036854775808 ≤ (n : Int) - (m : Int) := by omega
    clear h h' hR
    generalize ntext ss = T at *
    go_enter Tryd.func14, Tryd.ntmps14
    go_wp2_with fail
    refine (KT.out _ (Below.refl _ _)).mono ?_
    rintro e w2 ⟨rfl, H2⟩
    go_wp2_with fail
    go_ret
    exact ⟨rfl, H2.out⟩
  obtain ⟨p, hp⟩ : ∃ p, n - m = p := ⟨_, rfl⟩
  obtain ⟨x1, x2, rfl, _, _⟩ := h.rd.at 0 (by rw [hl]; omega)
  have hcut : Nm w (some ⟨x1, x2 + p, none⟩) (n - p) (ss.drop p) := h.cut p (fun _ b' o' e => by cases e; rfl)
  have KE := Lib.hid (eq75_any (some ⟨x1, x2 + p, none⟩) b (n - p) m (c - p) d (ss.drop p) og w hcut.rd h'.rd hcut.len hl' (by omega) (by omega))
  have i1 : (n : Int) - (m : Int) = (p : Int) := by omega
  have i2 : ¬ (p : Int) < 0 := by omega
  have i3 : (p : Int) ≤ (n : Int) := by omega
  have i4 : (p : Int) ≤ (c : Int) := by omega
  have i5 : ¬ c = p := by omega
  have i6 : ((m : Int) == 0) = false := by simp; omega
  by_cases he : ss.drop p = og
  · rw [show decide (ss.drop p = og) = true from decide_eq_true he] at KE
    by_cases hp0 : p = 0
    · have hR : shF ss og = ⟨#[64]⟩ := by
        unfold shF
        rw [if_pos (by rw [hp0] at he; simpa using he)]
      rw [hR]
      subst hp0
      clear h h' hR KT hcut he
      go_enter Tryd.func14, Tryd.ntmps14
      go_wp2_with fail
      refine KE.out.mono ?_
      rintro e w1 ⟨rfl, H1⟩
      go_wp2_with fail
      go_ret
      exact ⟨rfl, H1.out⟩
    · have hR : shF ss og = relT (ss.take p) := by
        unfold shF
        rw [if_neg (fun e => hp0 (by rw [e, hl'] at hl; omega)), if_neg (by
          simp only [not_or, Classical.not_not]
          rw [hl, hl', hp]
          exact ⟨hog, by omega, he⟩), hl, hl', hp]
      rw [hR]
      have ht0 : ss.take p ≠ [] := by
        intro e
        have := congrArg List.length e
        rw [List.length_take, hl, List.length_nil] at this
        omega
      have i7 : ((p : Int) == 0) = false := by simp; omega
      have KX := Lib.hid (fun W (hW : Below w.heap.size w W) => text42_any (some ⟨x1, x2, none⟩) p c (ss.take p) W (by
        have := nm_take h p (by omega)
        exact ⟨this.rd.below hW, this.len, this.sz⟩))
      have KS := Lib.hid (fun W => Tryd.strings_TrimSuffix (ntext (ss.take p)).1 ⟨#[46]⟩ W (by
        have := text_size (nck_take ss p hk)
        omega))
      rw [trim_rel (nck_take ss p hk) ht0] at KS
      generalize relT (ss.take p) = R at *
      generalize ntext (ss.take p) = T at *
      clear h h' hR KT hcut he ht0 hog
      go_enter Tryd.func14, Tryd.ntmps14
      go_wp2_with fail
      refine KE.out.mono ?_
      rintro e w1 ⟨rfl, H1⟩
      go_wp2_with fail
      refine (KX.out _ H1.out).mono ?_
      rintro e w2 ⟨rfl, H2⟩
      have HB := Lib.hid (H1.out.trans (H2.out.mono H1.out.size))
      go_wp2_with fail
      refine (KS.out _).mono ?_
      rintro e w3 ⟨rfl, rfl⟩
      go_wp2_with fail
      go_ret
      exact ⟨rfl, HB.out⟩
  · rw [show decide (ss.drop p = og) = false from decide_eq_false he] at KE
    have hR : shF ss og = (ntext ss).1 := by
      unfold shF
      rw [if_neg (fun e => he (by
        have : p = 0 := by rw [e, hl'] at hl; omega
        rw [this, e]; rfl)), if_pos (.inr (.inr (by rw [hl, hl', hp]; exact he)))]
    rw [hR]
    clear h h' hR hcut he
    generalize ntext ss = T at *
    go_enter Tryd.func14, Tryd.ntmps14
    go_wp2_with fail
    refine KE.out.mono ?_
    rintro e w1 ⟨rfl, H1⟩
    go_wp2_with fail
    refine (KT.out _ H1.out).mono ?_
    rintro e w2 ⟨rfl, H2⟩
    go_wp2_with fail
    go_ret
    exact ⟨rfl, H1.out.trans (H2.out.mono H1.out.size)⟩
/-- P15.1: Short. -/
def shortF (n og : List ByteArray) : ByteArray × Int := if nck n ≠ 0 then (⟨#[]⟩, nck n) else if nck og ≠ 0 then (⟨#[]⟩, nck og) else (shF n og, 0)
set_option maxRecDepth 100000 in
set_option maxHeartbeats 4000000 in
theorem short11_any (x y : Sl) (n og : List ByteArray) (w : World) (h : TRd w x n) (h' : TRd w y og) (hx : x.n ≤ 1000) (hy : y.n ≤ 1000) :
    Calls Tryd.prog 6 #[.slice x.a x.n x.c, .slice y.a y.n y.c] w fun e w' => e = .returned (.tuple #[.string (shortF n og).1, .int .i64 (shortF n og).2]) ∧ Hid (Below w.heap.size w w') := by
  obtain ⟨a, k, c⟩ := x
  obtain ⟨b, m, d⟩ := y
  have hw1 : Nw w a k n := ⟨h.rd, h.len, hx, h.z63⟩
  have hw2 : Nw w b m og := ⟨h'.rd, h'.len, hy, h'.z63⟩
  have K1 := Lib.hid (wcheck c hw1)
  have K2 := Lib.hid (wcheck d hw2)
  have hcap := h.cap
  have hnil := h.nil
  simp only at hcap hnil hx hy ⊢
  by_cases hk : nck n = 0
  · rw [hk] at K1
    by_cases hg : nck og = 0
    · rw [hg] at K2
      have hR : shortF n og = (shF n og, 0) := by unfold shortF; rw [if_neg (fun e => e hk), if_neg (fun e => e hg)]
      rw [hR]
      have KS := Lib.hid (short39_any a b k m c d n og w (hw1.nm hk) (hw2.nm hg) hk hg hcap hnil)
      generalize shF n og = R at *
      clear h h' hw1 hw2 hR hk hg
      go_enter Tryd.func6, Tryd.ntmps6
      go_wp2_with fail
      refine K1.out.mono ?_
      rintro e w1 ⟨rfl, rfl⟩
      go_wp2_with fail
      refine K2.out.mono ?_
      rintro e w1 ⟨rfl, rfl⟩
      go_wp2_with fail
      refine KS.out.mono ?_
      rintro e w2 ⟨rfl, H2⟩
      go_wp2_with fail
      go_ret2
      exact ⟨rfl, H2.out⟩
    · have hR : shortF n og = (⟨#[]⟩, nck og) := by unfold shortF; rw [if_neg (fun e => e hk), if_pos hg]
      rw [hR]
      generalize nck og = q at *
      have hq : (q != 0) = true := bne_iff_ne.2 hg
      clear h h' hw1 hw2 hR hk hg
      go_enter Tryd.func6, Tryd.ntmps6
      go_wp2_with fail
      refine K1.out.mono ?_
      rintro e w1 ⟨rfl, rfl⟩
      go_wp2_with fail
      refine K2.out.mono ?_
      rintro e w1 ⟨rfl, rfl⟩
      go_wp2_with fail
      go_ret2
      exact ⟨rfl, Below.refl _ _⟩
  · have hR : shortF n og = (⟨#[]⟩, nck n) := by unfold shortF; rw [if_pos hk]
    rw [hR]
    generalize nck n = q at *
    have hq : (q != 0) = true := bne_iff_ne.2 hk
    clear h h' hw1 hw2 hR hk K2
    go_enter Tryd.func6, Tryd.ntmps6
    go_wp2_with fail
    refine K1.out.mono ?_
    rintro e w1 ⟨rfl, rfl⟩
    go_wp2_with fail
    go_ret2
    exact ⟨rfl, Below.refl _ _⟩
end Go.Proofs.YtoppdmlmhigogaaDoor
namespace Go.Proofs.YtoppdmlmhigogaaDoor
open Go.ChangeShapes Go.WideShapes Go.ChangeAt Go.RowKit
set_option linter.unusedVariables false
set_option linter.unusedSimpArgs false
theorem wrong_ok {r : Rec} (h : wrongF r = 0) : nck r.ow = 0 ∧ checkF r.t r.d = 0 ∧ r.tt ≤ 2147483647 := by
  unfold wrongF at h
  split at h
  · rename_i h1; exact absurd h h1
  · rename_i h1
    split at h
    · cases h
    · split at h
      · rename_i h3; exact absurd h h3
      · rename_i h3
        split at h
        · cases h
        · rename_i h4
          exact ⟨Classical.not_not.1 h1, Classical.not_not.1 h3, by omega⟩
theorem bb_new (w : World) : G2 w.heap.size (w.alloc (.cells #[.pointer none, .slice none 0 0] 46)) w.heap.size (Lib.byteCells []) := .inl ⟨heap_alloc_new _ _, rfl⟩
set_option maxRecDepth 100000 in
set_option maxHeartbeats 4000000 in
theorem line13_any (x : RA) (r : Rec) (w : World) (h : RRd w x r) (hn : x.o.n ≤ 1000) (hB : Bd r.d) (hL : LayT w) (ht : r.t < 65536) (hcl : r.cl < 65536) (htt : r.tt < 4294967296) (hwl : (wordsR r.t r.d).length ≤ 100000) (hz : (lineP r).length ≤ 140737488355328) :
    Calls Tryd.prog 4 #[.agg (recCells x r).toArray] w fun e w' => e = .returned (.tuple #[.string ⟨(lineF r).1.toArray⟩, .int .i64 (lineF r).2]) ∧ Hid (Below w.heap.size w w') := by
  have hb0 := new_below w (.cells (recCells x r).toArray 37)
  have KC := Lib.hid (check29_any x r _ (h.below hb0) hn hB)
  by_cases hw : wrongF r = 0
  case neg =>
    have hR : lineF r = ([], wrongF r) := by unfold lineF; rw [if_neg hw]
    rw [hR]
    generalize wrongF r = q at *
    have hq : (q != 0) = true := bne_iff_ne.2 hw
    obtain ⟨⟨oa, on, oc⟩, ⟨⟨a1, n1, k1⟩, ⟨a2, n2, k2⟩, ⟨a3, n3, k3⟩, ⟨a4, n4, k4⟩⟩⟩ := x
    obtain ⟨ow, t, cl, tt, d⟩ := r
    have HB0 := Lib.hid hb0
    clear h hb0 hR hw hB hL
    have KC' : Hid (Calls Tryd.prog 9 #[.agg #[.slice oa on oc, .int .u16 (t : Int), .int .u16 (cl : Int), .int .u32 (tt : Int), .slice a1 n1 k1, .slice a2 n2 k2, .slice a3 n3 k3, .slice a4 n4 k4]] (w.alloc (.cells #[.slice oa on oc, .int .u16 (t : Int), .int .u16 (cl : Int), .int .u32 (tt : Int), .slice a1 n1 k1, .slice a2 n2 k2, .slice a3 n3 k3, .slice a4 n4 k4] 37)) fun e w' => e = .returned (.int .i64 q) ∧ Hid (Below (w.alloc (.cells #[.slice oa on oc, .int .u16 (t : Int), .int .u16 (cl : Int), .int .u32 (tt : Int), .slice a1 n1 k1, .slice a2 n2 k2, .slice a3 n3 k3, .slice a4 n4 k4] 37)).heap.size (w.alloc (.cells #[.slice oa on oc, .int .u16 (t : Int), .int .u16 (cl : Int), .int .u32 (tt : Int), .slice a1 n1 k1, .slice a2 n2 k2, .slice a3 n3 k3, .slice a4 n4 k4] 37)) w')) := KC
    have HB0' : Hid (Below w.heap.size w (w.alloc (.cells #[.slice oa on oc, .int .u16 (t : Int), .int .u16 (cl : Int), .int .u32 (tt : Int), .slice a1 n1 k1, .slice a2 n2 k2, .slice a3 n3 k3, .slice a4 n4 k4] 37))) := HB0
    clear KC HB0
    show Calls Tryd.prog 4 #[.agg #[.slice oa on oc, .int .u16 (t : Int), .int .u16 (cl : Int), .int .u32 (tt : Int), .slice a1 n1 k1, .slice a2 n2 k2, .slice a3 n3 k3, .slice a4 n4 k4]] w _
    go_enter Tryd.func4, Tryd.ntmps4
    go_wp2_with fail
    refine KC'.out.mono ?_
    rintro e w2 ⟨rfl, H2⟩
    have HB := Lib.hid (HB0'.out.trans (H2.out.mono HB0'.out.size))
    go_wp2_with fail
    go_ret2
    exact ⟨rfl, HB.out⟩
  case pos =>
    obtain ⟨hk, hc, -⟩ := wrong_ok hw
    have hR : lineF r = (lineP r, 0) := by unfold lineF; rw [if_pos hw]
    rw [hR]
    rw [hw] at KC
    have hnm : Nm w x.o.a x.o.n r.ow := (show Nw w x.o.a x.o.n r.ow from ⟨h.1.rd, h.1.len, hn, h.1.z63⟩).nm hk
    have KT0 : Hid (∀ W, Below w.heap.size w W → Calls Tryd.prog 11 #[.slice x.o.a x.o.n x.o.c] W fun e w' => e = .returned (.string (ntext r.ow).1) ∧ Hid (Below W.heap.size W w')) := fun W hW => text42_any x.o.a x.o.n x.o.c r.ow W ⟨hnm.rd.below hW, hnm.len, hnm.sz⟩
    have hE : [] ++ midP (ntext r.ow).1 true r = lineP r := by unfold midP lineP; rw [if_pos rfl]; simp
    have KL0 : Hid (∀ w2, Below w.heap.size w w2 → ∀ V, G2 w2.heap.size V w2.heap.size (Lib.byteCells []) → Below w2.heap.size w2 V → Calls Tryd.prog 10 #[.pointer (some ⟨w2.heap.size, 0, none⟩), .string (ntext r.ow).1, .agg (recCells x r).toArray, .bool true] V fun e w' => e = .returned (.tuple #[]) ∧ Hid (G2 w2.heap.size w' w2.heap.size (Lib.byteCells (lineP r)) ∧ Below w2.heap.size w2 w')) := fun w2 h2 V hg hV => by
      have := pline41_any w2 V w2.heap.size [] (ntext r.ow).1 x r true (Nat.le_refl _) hV hg (h.below h2) (hL.below h2) hc hB ht hcl htt hwl (by rw [← List.length_append, hE]; exact hz)
      rw [hE] at this
      exact this.mono fun e w' q => ⟨q.1, q.2.out.1, hV.trans q.2.out.2.1⟩
    have HLN : Hid ((lineP r).length ≤ 140737488355328) := hz
    generalize lineP r = LP at *
    generalize (ntext r.ow).1 = T at *
    obtain ⟨⟨oa, on, oc⟩, ⟨⟨a1, n1, k1⟩, ⟨a2, n2, k2⟩, ⟨a3, n3, k3⟩, ⟨a4, n4, k4⟩⟩⟩ := x
    obtain ⟨ow, t, cl, tt, d⟩ := r
    have HB0 := Lib.hid hb0
    clear h hb0 hR hw hB hL hk hc hnm hE hz hwl
    have KC' : Hid (Calls Tryd.prog 9 #[.agg #[.slice oa on oc, .int .u16 (t : Int), .int .u16 (cl : Int), .int .u32 (tt : Int), .slice a1 n1 k1, .slice a2 n2 k2, .slice a3 n3 k3, .slice a4 n4 k4]] (w.alloc (.cells #[.slice oa on oc, .int .u16 (t : Int), .int .u16 (cl : Int), .int .u32 (tt : Int), .slice a1 n1 k1, .slice a2 n2 k2, .slice a3 n3 k3, .slice a4 n4 k4] 37)) fun e w' => e = .returned (.int .i64 0) ∧ Hid (Below (w.alloc (.cells #[.slice oa on oc, .int .u16 (t : Int), .int .u16 (cl : Int), .int .u32 (tt : Int), .slice a1 n1 k1, .slice a2 n2 k2, .slice a3 n3 k3, .slice a4 n4 k4] 37)).heap.size (w.alloc (.cells #[.slice oa on oc, .int .u16 (t : Int), .int .u16 (cl : Int), .int .u32 (tt : Int), .slice a1 n1 k1, .slice a2 n2 k2, .slice a3 n3 k3, .slice a4 n4 k4] 37)) w')) := KC
    have HB0' : Hid (Below w.heap.size w (w.alloc (.cells #[.slice oa on oc, .int .u16 (t : Int), .int .u16 (cl : Int), .int .u32 (tt : Int), .slice a1 n1 k1, .slice a2 n2 k2, .slice a3 n3 k3, .slice a4 n4 k4] 37))) := HB0
    have KL1 : Hid (∀ w2, Below w.heap.size w w2 → ∀ V, G2 w2.heap.size V w2.heap.size (Lib.byteCells []) → Below w2.heap.size w2 V → Calls Tryd.prog 10 #[.pointer (some ⟨w2.heap.size, 0, none⟩), .string T, .agg #[.slice oa on oc, .int .u16 (t : Int), .int .u16 (cl : Int), .int .u32 (tt : Int), .slice a1 n1 k1, .slice a2 n2 k2, .slice a3 n3 k3, .slice a4 n4 k4], .bool true] V fun e w' => e = .returned (.tuple #[]) ∧ Hid (G2 w2.heap.size w' w2.heap.size (Lib.byteCells LP) ∧ Below w2.heap.size w2 w')) := KL0
    have KT1 : Hid (∀ W, Below w.heap.size w W → Calls Tryd.prog 11 #[.slice oa on oc] W fun e w' => e = .returned (.string T) ∧ Hid (Below W.heap.size W w')) := KT0
    clear KC HB0 KL0 KT0
    show Calls Tryd.prog 4 #[.agg #[.slice oa on oc, .int .u16 (t : Int), .int .u16 (cl : Int), .int .u32 (tt : Int), .slice a1 n1 k1, .slice a2 n2 k2, .slice a3 n3 k3, .slice a4 n4 k4]] w _
    go_enter Tryd.func4, Tryd.ntmps4
    go_wp2_with fail
    refine KC'.out.mono ?_
    rintro e w2 ⟨rfl, H2⟩
    have HB := Lib.hid (HB0'.out.trans (H2.out.mono HB0'.out.size))
    have HX : Hid (w2.heap[w.heap.size]? = some (.cells #[.slice oa on oc, .int .u16 (t : Int), .int .u16 (cl : Int), .int .u32 (tt : Int), .slice a1 n1 k1, .slice a2 n2 k2, .slice a3 n3 k3, .slice a4 n4 k4] 37)) := (H2.out.block w.heap.size (by simp)).trans (heap_alloc_new _ _)
    have KS : ∀ W, Below w2.heap.size w2 W → W.cell? ⟨w.heap.size, 0, none⟩ = some (.slice oa on oc) ∧ W.cell? ⟨w.heap.size, 1, none⟩ = some (.int .u16 (t : Int)) ∧ W.cell? ⟨w.heap.size, 2, none⟩ = some (.int .u16 (cl : Int)) ∧ W.cell? ⟨w.heap.size, 3, none⟩ = some (.int .u32 (tt : Int)) ∧ W.cell? ⟨w.heap.size, 4, none⟩ = some (.slice a1 n1 k1) ∧ W.cell? ⟨w.heap.size, 5, none⟩ = some (.slice a2 n2 k2) ∧ W.cell? ⟨w.heap.size, 6, none⟩ = some (.slice a3 n3 k3) ∧ W.cell? ⟨w.heap.size, 7, none⟩ = some (.slice a4 n4 k4) := fun W hW => by
      have hh := (hW.block _ (lt_block HX.out)).trans HX.out
      exact ⟨bx_cell hh rfl, bx_cell hh rfl, bx_cell hh rfl, bx_cell hh rfl, bx_cell hh rfl, bx_cell hh rfl, bx_cell hh rfl, bx_cell hh rfl⟩
    have KL := Lib.hid (KL1.out w2 HB.out)
    have l0 := lt_block HX.out
    have H3 : Hid (G2 w2.heap.size (w2.alloc (.cells #[.pointer none, .slice none 0 0] 46)) w2.heap.size (Lib.byteCells []) ∧ Below w2.heap.size w2 (w2.alloc (.cells #[.pointer none, .slice none 0 0] 46))) := ⟨bb_new w2, new_below _ _⟩
    obtain ⟨B, hBB⟩ : ∃ B, B = w2.heap.size := ⟨_, rfl⟩
    clear KC' HB0' KL1 H2
    go_wp2_with fail
    generalize w2.alloc (.cells #[.pointer none, .slice none 0 0] 46) = wa at *
    have HD : Hid (G2 w2.heap.size wa.drew w2.heap.size (Lib.byteCells []) ∧ Below w2.heap.size w2 wa.drew) := ⟨H3.out.1.go (Below.refl _ _).drew, H3.out.2.drew⟩
    have l1 : w.heap.size < wa.heap.size := Nat.lt_of_lt_of_le l0 H3.out.2.size
    go_region_held3 (fun W => W.cell? ⟨w.heap.size, 0, none⟩ = some (.slice oa on oc) ∧ W.cell? ⟨w.heap.size, 1, none⟩ = some (.int .u16 (t : Int)) ∧ W.cell? ⟨w.heap.size, 2, none⟩ = some (.int .u16 (cl : Int)) ∧ W.cell? ⟨w.heap.size, 3, none⟩ = some (.int .u32 (tt : Int)) ∧ W.cell? ⟨w.heap.size, 4, none⟩ = some (.slice a1 n1 k1) ∧ W.cell? ⟨w.heap.size, 5, none⟩ = some (.slice a2 n2 k2) ∧ W.cell? ⟨w.heap.size, 6, none⟩ = some (.slice a3 n3 k3) ∧ W.cell? ⟨w.heap.size, 7, none⟩ = some (.slice a4 n4 k4)) (first | exact KS _ H7.out.2 | exact KS _ H6.out.2 | exact KS _ HD.out.2 | exact KS _ H3.out.2) (first
      | (go_at_call 11; refine (KT1.out _ (HB.out.trans (HD.out.2.mono HB.out.size))).mono ?_; rintro e w6 ⟨rfl, H6'⟩; have H6 : Hid (G2 w2.heap.size w6 w2.heap.size (Lib.byteCells []) ∧ Below w2.heap.size w2 w6) := ⟨HD.out.1.go H6'.out, HD.out.2.trans (H6'.out.mono HD.out.2.size)⟩; have l6 : w.heap.size < w6.heap.size := Nat.lt_of_lt_of_le l0 H6.out.2.size)
      | (go_at_call 10; refine (KL.out _ H6.out.1 H6.out.2).mono ?_; rintro e w7 ⟨rfl, H7⟩)
      | fail)
    all_goals
      have HS := Lib.hid (wstringU w2.heap.size w2.heap.size LP w7 H7.out.1 (by have := HLN.out; omega))
      have HB7 := Lib.hid (HB.out.trans (H7.out.2.mono HB.out.size))
      have hsz := HB7.out.size
      go_wp2_with fail
      refine HS.out.mono ?_
      rintro e w8 ⟨rfl, H8⟩
      have HB8 := Lib.hid (HB7.out.trans (H8.out.mono (Nat.le_trans HB.out.size (Nat.le_refl _))))
      go_wp2_with fail
      go_ret2
      exact ⟨rfl, HB8.out⟩
end Go.Proofs.YtoppdmlmhigogaaDoor

