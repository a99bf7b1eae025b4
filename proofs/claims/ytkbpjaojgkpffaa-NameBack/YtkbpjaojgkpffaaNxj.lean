/- The program's names: the labels of a text. -/
import Derived.Test.YtkbpjaojgkpffaaNxg
namespace Go.Proofs.Ytkbpjaojgkpffaa
open Go.ChangeShapes Go.WideShapes Go.ChangeAt Go.RowKit
set_option linter.unusedVariables false
set_option linter.unusedSimpArgs false

theorem go_dot (l : List Int) (hb : ∀ z ∈ l, 0 ≤ z ∧ z ≤ 255) : ∀ (n p : Nat) (out o : List Int) (q : Nat), l.length - p ≤ n → p ≤ l.length → go l p out = some (o, q) → q < l.length → l.getD q 0 = 46 := by
  intro n
  induction n with
  | zero =>
    intro p out o q hn hp h hq
    have hpe : ¬ (p < l.length ∧ l.getD p 0 ≠ 46) := by omega
    rw [go_stop l p out hpe] at h
    cases h
    omega
  | succ n ih =>
    intro p out o q hn hp h hq
    by_cases hc : p < l.length ∧ l.getD p 0 ≠ 46
    · have hbd := fr_bd (l.drop p) (fun z hz => hb z (List.mem_of_mem_drop hz)) (by simp; omega)
      by_cases h0 : (fr (l.drop p)).2 ≤ 0
      · rw [go_bad l p out hc h0] at h; cases h
      · rw [go_step l p out hc h0] at h
        have hl : ((l.drop p).length : Int) = (l.length : Int) - (p : Int) := by simp; omega
        exact ih _ _ o q (by omega) (by omega) h hq
    · rw [go_stop l p out hc] at h
      cases h
      by_cases h46 : l.getD p 0 = 46
      · exact h46
      · exact absurd ⟨hq, h46⟩ hc
theorem pres_dot (l : List Int) (hb : ∀ z ∈ l, 0 ≤ z ∧ z ≤ 255) (p : Nat) (h : (pres l).2.2 = 0) (hp : (pres l).2.1 = (p : Int)) (hl : p < l.length) : l.getD p 0 = 46 := by
  unfold pres at h hp
  cases hg : go l 0 [] with
  | none => rw [hg] at h; cases h
  | some r =>
    obtain ⟨o, q⟩ := r
    rw [hg] at h hp
    dsimp only at h hp
    by_cases hc : 1 ≤ o.length ∧ o.length ≤ 63
    · rw [if_pos hc] at hp
      have e : q = p := by have : (q : Int) = (p : Int) := by simpa using hp
                           omega
      subst e
      exact go_dot l hb l.length 0 [] o q (by omega) (by omega) hg hl
    · rw [if_neg hc] at h
      exact absurd h (by decide)

set_option maxRecDepth 100000 in
theorem hasp_no (t : ByteArray) (w : World) (h : t.size = 0) : Calls Try.prog 105 #[.string t, .string ⟨#[46]⟩] w fun e w' => e = .returned (.bool false) ∧ w' = w := by
  go_enter Try.func105, Try.ntmps105
  go_wp2
  go_ret
  exact ⟨rfl, rfl⟩
set_option maxRecDepth 100000 in
theorem hasp_yes (t : ByteArray) (w : World) (h : 1 ≤ t.size) (hm : t.size ≤ 9223372036854775807) (h46 : t.extract 0 1 = ⟨#[46]⟩) : Calls Try.prog 105 #[.string t, .string ⟨#[46]⟩] w fun e w' => e = .returned (.bool true) ∧ w' = w := by
  have h1 : (1 : Int) ≤ (t.size : Int) := by omega
  go_enter Try.func105, Try.ntmps105
  go_wp2
  go_ret
  exact ⟨rfl, rfl⟩
set_option maxRecDepth 100000 in
theorem cut1_no (t : ByteArray) (w : World) (h : t.size = 0) : Calls Try.prog 98 #[.string t, .string ⟨#[46]⟩] w fun e w' => e = .returned (.tuple #[.string t, .bool false]) ∧ w' = w := by
  have K : Hid (∀ W, Calls Try.prog 105 #[.string t, .string ⟨#[46]⟩] W fun e w' => e = .returned (.bool false) ∧ w' = W) := fun W => hasp_no t W h
  clear h
  go_enter Try.func98, Try.ntmps98
  go_wp2_with fail
  refine (K.out _).mono ?_
  rintro e w1 ⟨rfl, rfl⟩
  go_wp2
  go_ret2
  exact ⟨rfl, rfl⟩
set_option maxRecDepth 100000 in
theorem cut_no (t : ByteArray) (w : World) (h : t.size = 0) : Calls Try.prog 90 #[.string t, .string ⟨#[46]⟩] w fun e w' => e = .returned (.tuple #[.string t, .bool false]) ∧ w' = w := by
  have K : Hid (∀ W, Calls Try.prog 98 #[.string t, .string ⟨#[46]⟩] W fun e w' => e = .returned (.tuple #[.string t, .bool false]) ∧ w' = W) := fun W => cut1_no t W h
  clear h
  go_enter Try.func90, Try.ntmps90
  go_wp2_with fail
  refine (K.out _).mono ?_
  rintro e w1 ⟨rfl, rfl⟩
  go_wp2
  go_ret2
  exact ⟨rfl, rfl⟩
set_option maxRecDepth 100000 in
theorem cut1_yes (t : ByteArray) (w : World) (h : 1 ≤ t.size) (hm : t.size ≤ 9223372036854775807) (h46 : t.extract 0 1 = ⟨#[46]⟩) : Calls Try.prog 98 #[.string t, .string ⟨#[46]⟩] w fun e w' => e = .returned (.tuple #[.string (t.extract 1 t.size), .bool true]) ∧ w' = w := by
  have K : Hid (∀ W, Calls Try.prog 105 #[.string t, .string ⟨#[46]⟩] W fun e w' => e = .returned (.bool true) ∧ w' = W) := fun W => hasp_yes t W h hm h46
  have h1 : (1 : Int) ≤ (t.size : Int) := by omega
  clear h46
  go_enter Try.func98, Try.ntmps98
  go_wp2_with fail
  refine (K.out _).mono ?_
  rintro e w1 ⟨rfl, rfl⟩
  go_wp2
  go_ret2
  exact ⟨rfl, rfl⟩
set_option maxRecDepth 100000 in
theorem cut_yes (t : ByteArray) (w : World) (h : 1 ≤ t.size) (hm : t.size ≤ 9223372036854775807) (h46 : t.extract 0 1 = ⟨#[46]⟩) : Calls Try.prog 90 #[.string t, .string ⟨#[46]⟩] w fun e w' => e = .returned (.tuple #[.string (t.extract 1 t.size), .bool true]) ∧ w' = w := by
  have K : Hid (∀ W, Calls Try.prog 98 #[.string t, .string ⟨#[46]⟩] W fun e w' => e = .returned (.tuple #[.string (t.extract 1 t.size), .bool true]) ∧ w' = W) := fun W => cut1_yes t W h hm h46
  generalize t.extract 1 t.size = q at *
  clear h46
  go_enter Try.func90, Try.ntmps90
  go_wp2_with fail
  refine (K.out _).mono ?_
  rintro e w1 ⟨rfl, rfl⟩
  go_wp2
  go_ret2
  exact ⟨rfl, rfl⟩
theorem nums_inj {a b : ByteArray} (h : nums a = nums b) : a = b := by rw [← txt_back a, ← txt_back b, h]
theorem nums_extract2 (s : ByteArray) (p q : Nat) : nums (s.extract p q) = ((nums s).take q).drop p := by
  simp only [nums, ByteArray.data_extract, Array.toList_extract, List.map_drop, List.map_take, List.extract]
  rw [List.drop_take]
theorem head_dot (t : ByteArray) (h : 1 ≤ t.size) (h46 : (nums t).getD 0 0 = 46) : t.extract 0 1 = ⟨#[46]⟩ := by
  apply nums_inj
  rw [nums_extract2]
  have hl := nums_len t
  cases hn : nums t with
  | nil => rw [hn] at hl; simp at hl; omega
  | cons x l =>
    rw [hn] at h46
    have e : x = 46 := by simpa using h46
    subst e
    rfl

/-- What the program's labels answers. -/
def plab (s : ByteArray) : List ByteArray × Bool × Int := if s.toList = [46] then ([], true, 0) else lgo (nums s) []
set_option maxRecDepth 100000 in
set_option maxHeartbeats 2000000 in
theorem plabels_any (s : ByteArray) (w : World) (hs : s.size ≤ 1000000000) : Calls Try.prog 72 #[.string s] w (LPost (plab s) w) := by
  by_cases hd : s.toList = [46]
  · have hp : plab s = ([], true, 0) := by unfold plab; rw [if_pos hd]
    rw [hp]
    clear hp
    go_enter Try.func72, Try.ntmps72
    go_wp2
    go_ret3
    exact ⟨.slice none 0 0, [], rfl, OwnT.nil _ _ _, rfl, Below.refl _ _⟩
  have hp : plab s = lgo (nums s) [] := by unfold plab; rw [if_neg hd]
  rw [hp]
  have hdf : (s.toList == [46]) = false := by simpa using hd
  obtain ⟨R, hR⟩ : ∃ R, lgo (nums s) [] = R := ⟨_, rfl⟩
  have HR0 : Hid (lgo (nums s) [] = R) := hR
  rw [hR]
  clear hR hp hd
  go_enter Try.func72, Try.ntmps72
  go_wp2_with fail
  go_loopw [0, 5] (fun x v wr => ∃ (t : ByteArray) (out : List ByteArray), x = .string t ∧ t.size ≤ 1000000000 ∧ out.length + t.size ≤ 1000000000 ∧ Hid (lgo (nums t) out = R) ∧ Hid (∃ ys, OwnT w.heap.size wr v out.length ys 1000000000000 ∧ ys.take out.length = out) ∧ Hid (Below w.heap.size w wr)) (fun x _ _ => match x with | .string t => t.size | _ => 0)
  case atStart => exact ⟨s, [], rfl, hs, by simpa using hs, HR0, ⟨[], OwnT.nil _ _ _, rfl⟩, Below.refl _ _⟩
  case round =>
    clear hdf
    obtain ⟨t, out, rfl, htz, hout, HK, HW, HB⟩ := hrel
    have KP : Hid (∀ W, Calls Try.prog 89 #[.string t] W fun e w' => e = .returned (.tuple #[.string (lb (pres (nums t)).1), .int .i64 (pres (nums t)).2.1, .int .i64 (pres (nums t)).2.2]) ∧ Hid (Below W.heap.size W w')) := fun W => parse_any t W (by omega)
    have HU : Hid (lgo (nums t) out = if (pres (nums t)).2.2 = 0 then (if (pres (nums t)).2.1 = (t.size : Int) then (out ++ [lb (pres (nums t)).1], false, 0) else if ((nums t).drop ((pres (nums t)).2.1.toNat + 1)).length = 0 then (out ++ [lb (pres (nums t)).1], true, 0) else lgo ((nums t).drop ((pres (nums t)).2.1.toNat + 1)) (out ++ [lb (pres (nums t)).1])) else ([], false, (pres (nums t)).2.2)) := by
      show _ = _
      rw [lgo, nums_len]
      split <;> rfl
    by_cases h0 : (pres (nums t)).2.2 = 0
    · obtain ⟨p, hp, hpl, hl1, hl2⟩ := pres_le (nums t) (nums_all t) h0
      rw [nums_len] at hpl
      have hlz : (lb (pres (nums t)).1).size ≤ 1000000000000 := by rw [lb_size]; omega
      have hdot : p < t.size → (nums t).getD p 0 = 46 := fun h => pres_dot (nums t) (nums_all t) p h0 hp (by rw [nums_len]; exact h)
      rw [h0, if_pos rfl, hp, Int.toNat_natCast] at HU
      rw [h0, hp] at KP
      generalize lb (pres (nums t)).1 = f at *
      clear h0 hp hl1 hl2
      have hpI : (p : Int) ≤ (t.size : Int) := by omega
      have hz1 : (t.extract p t.size).size = t.size - p := by simp
      have HN1 : Hid (nums (t.extract p t.size) = (nums t).drop p) := nums_extract t p
      by_cases hpt : p = t.size
      · have e : R = (out ++ [f], false, 0) := by rw [← HK.out, HU.out, if_pos (by omega)]
        subst e
        have KC : Hid (∀ W, Calls Try.prog 90 #[.string (t.extract p t.size), .string ⟨#[46]⟩] W fun e w' => e = .returned (.tuple #[.string (t.extract p t.size), .bool false]) ∧ w' = W) := fun W => cut_no _ W (by rw [hz1]; omega)
        have hze : ((t.extract p t.size).toList == []) = true := by
          have : (t.extract p t.size).toList = [] := by rw [ba_toList]; exact List.eq_nil_of_length_eq_zero (by have : (t.extract p t.size).data.toList.length = (t.extract p t.size).size := rfl; omega)
          rw [this]; rfl
        clear HU HK HR0 hdot hz1 HN1 hpt
        go_wp2_with fail
        refine (KP.out _).mono ?_
        rintro e w1 ⟨rfl, H1⟩
        obtain ⟨ys, hO, hT⟩ := HW.out
        have hnb : Below wr.heap.size wr (w1.alloc (.cells #[.string f] 9)) := H1.out.alloc H1.out.size _
        have HO2 : Hid (OwnT w.heap.size (w1.alloc (.cells #[.string f] 9)) u5 out.length ys 1000000000000 ∧ ys.take out.length = out) := ⟨hO.below hnb, hT⟩
        have HNB : Hid (Below wr.heap.size wr (w1.alloc (.cells #[.string f] 9))) := hnb
        clear hO hT hnb KP
        go_wp2_with (at_builtin; refine wpList_append_T tyN _ rfl _ _ 23 9 Try.underlying23 rfl w.heap.size _ out.length ys 1000000000000 rfl HO2.out.1 (some ⟨w1.heap.size, 0, none⟩) 1 1 [f] rfl (one_rdT w1 f) rfl (by intro s hs; simp at hs; subst hs; exact hlz) (by omega) (Nat.le_trans HB.out.size HNB.out.size) ?_; intro v' w' ys' hO' hT' hG'; have HB2 : Hid (Below w.heap.size w w') := ((HB.out.trans (HNB.out.mono HB.out.size)).grown hG' (Nat.le_trans HB.out.size HNB.out.size) HO2.out.1.1.lt); clear hG')
        refine (KC.out _).mono ?_
        rintro e w3 ⟨rfl, rfl⟩
        clear KC
        go_wp2
        go_ret3
        refine ⟨v', ys', rfl, ?_, ?_, HB2.out⟩
        · rw [List.length_append]; exact hO'.out
        · rw [List.length_append]; exact hT'.out.trans (by rw [HO2.out.2])
      · have hp1 : p + 1 ≤ t.size := by omega
        have h46 : (t.extract p t.size).extract 0 1 = ⟨#[46]⟩ := by
          refine head_dot _ (by rw [hz1]; omega) ?_
          rw [HN1.out, List.getD_eq_getElem?_getD, List.getElem?_drop, Nat.add_zero, ← List.getD_eq_getElem?_getD]
          exact hdot (by omega)
        have KC : Hid (∀ W, Calls Try.prog 90 #[.string (t.extract p t.size), .string ⟨#[46]⟩] W fun e w' => e = .returned (.tuple #[.string ((t.extract p t.size).extract 1 (t.extract p t.size).size), .bool true]) ∧ w' = W) := fun W => cut_yes _ W (by rw [hz1]; omega) (by rw [hz1]; omega) h46
        have HN2 : Hid (nums ((t.extract p t.size).extract 1 (t.extract p t.size).size) = (nums t).drop (p + 1)) := by
          show _ = _
          rw [nums_extract, HN1.out, List.drop_drop]
        have hz2 : ((t.extract p t.size).extract 1 (t.extract p t.size).size).size = t.size - (p + 1) := by
          have := congrArg List.length HN2.out
          rw [nums_len, List.length_drop, nums_len] at this
          exact this
        generalize (t.extract p t.size).extract 1 (t.extract p t.size).size = L at *
        rw [if_neg (by omega), List.length_drop, nums_len] at HU
        clear h46 hdot hz1 HN1
        by_cases hp2 : p + 1 = t.size
        · have e : R = (out ++ [f], true, 0) := by rw [← HK.out, HU.out, if_pos (by omega)]
          subst e
          have hze : (L.toList == []) = true := by
            have : L.toList = [] := by rw [ba_toList]; exact List.eq_nil_of_length_eq_zero (by have : L.data.toList.length = L.size := rfl; omega)
            rw [this]; rfl
          clear HU HK HR0 HN2 hz2 hp2
          go_wp2_with fail
          refine (KP.out _).mono ?_
          rintro e w1 ⟨rfl, H1⟩
          obtain ⟨ys, hO, hT⟩ := HW.out
          have hnb : Below wr.heap.size wr (w1.alloc (.cells #[.string f] 9)) := H1.out.alloc H1.out.size _
          have HO2 : Hid (OwnT w.heap.size (w1.alloc (.cells #[.string f] 9)) u5 out.length ys 1000000000000 ∧ ys.take out.length = out) := ⟨hO.below hnb, hT⟩
          have HNB : Hid (Below wr.heap.size wr (w1.alloc (.cells #[.string f] 9))) := hnb
          clear hO hT hnb KP
          go_wp2_with (at_builtin; refine wpList_append_T tyN _ rfl _ _ 23 9 Try.underlying23 rfl w.heap.size _ out.length ys 1000000000000 rfl HO2.out.1 (some ⟨w1.heap.size, 0, none⟩) 1 1 [f] rfl (one_rdT w1 f) rfl (by intro s hs; simp at hs; subst hs; exact hlz) (by omega) (Nat.le_trans HB.out.size HNB.out.size) ?_; intro v' w' ys' hO' hT' hG'; have HB2 : Hid (Below w.heap.size w w') := ((HB.out.trans (HNB.out.mono HB.out.size)).grown hG' (Nat.le_trans HB.out.size HNB.out.size) HO2.out.1.1.lt); clear hG')
          refine (KC.out _).mono ?_
          rintro e w3 ⟨rfl, rfl⟩
          clear KC
          go_wp2
          go_ret3
          refine ⟨v', ys', rfl, ?_, ?_, HB2.out⟩
          · rw [List.length_append]; exact hO'.out
          · rw [List.length_append]; exact hT'.out.trans (by rw [HO2.out.2])
        · have HK2 : Hid (lgo (nums L) (out ++ [f]) = R) := by
            show _ = _
            rw [HN2.out, ← HK.out, HU.out, if_neg (by omega)]
          have hze : (L.toList == []) = false := by
            cases hL : L.toList with
            | nil =>
              have : L.size = 0 := by
                have h := congrArg List.length hL
                rw [ba_toList] at h
                exact h
              omega
            | cons x l => rfl
          clear HU HK HR0 HN2
          go_wp2_with fail
          refine (KP.out _).mono ?_
          rintro e w1 ⟨rfl, H1⟩
          obtain ⟨ys, hO, hT⟩ := HW.out
          have hnb : Below wr.heap.size wr (w1.alloc (.cells #[.string f] 9)) := H1.out.alloc H1.out.size _
          have HO2 : Hid (OwnT w.heap.size (w1.alloc (.cells #[.string f] 9)) u5 out.length ys 1000000000000 ∧ ys.take out.length = out) := ⟨hO.below hnb, hT⟩
          have HNB : Hid (Below wr.heap.size wr (w1.alloc (.cells #[.string f] 9))) := hnb
          clear hO hT hnb KP
          go_wp2_with (at_builtin; refine wpList_append_T tyN _ rfl _ _ 23 9 Try.underlying23 rfl w.heap.size _ out.length ys 1000000000000 rfl HO2.out.1 (some ⟨w1.heap.size, 0, none⟩) 1 1 [f] rfl (one_rdT w1 f) rfl (by intro s hs; simp at hs; subst hs; exact hlz) (by omega) (Nat.le_trans HB.out.size HNB.out.size) ?_; intro v' w' ys' hO' hT' hG'; have HB2 : Hid (Below w.heap.size w w') := ((HB.out.trans (HNB.out.mono HB.out.size)).grown hG' (Nat.le_trans HB.out.size HNB.out.size) HO2.out.1.1.lt); clear hG')
          refine (KC.out _).mono ?_
          rintro e w3 ⟨rfl, rfl⟩
          clear KC
          go_wp2
          refine ⟨⟨L, out ++ [f], rfl, by omega, by rw [List.length_append, hz2]; show out.length + 1 + _ ≤ _; omega, HK2, ⟨ys', ?_, ?_⟩, HB2⟩, by simp only [hz2]; omega⟩
          · rw [List.length_append]; exact hO'.out
          · rw [List.length_append]; exact hT'.out.trans (by rw [HO2.out.2])
    · have e : R = ([], false, (pres (nums t)).2.2) := by rw [← HK.out, HU.out, if_neg h0]
      subst e
      generalize (pres (nums t)).2.2 = q at *
      have hq : (q != 0) = true := bne_iff_ne.2 h0
      clear HU HK HR0 h0
      go_wp2_with fail
      refine (KP.out _).mono ?_
      rintro e w1 ⟨rfl, H1⟩
      go_wp2
      go_ret3
      exact ⟨.slice none 0 0, [], rfl, OwnT.nil _ _ _, rfl, HB.out.trans (H1.out.mono HB.out.size)⟩
end Go.Proofs.Ytkbpjaojgkpffaa
