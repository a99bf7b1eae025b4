/- What ApartBytes answers for lists that share no memory. -/
import Derived.Test.YtglkjiebcmmglaaLists
import Derived.Deep.RegionHeld3
import Derived.Deep.QuietTactic
import Derived.BigQuiet
namespace Go.Proofs.Ytglkjiebcmmglaa
open Go.ChangeShapes Go.WideShapes Go.ChangeAt Go.RowKit
set_option linter.unusedVariables false
set_option linter.unusedSimpArgs false

theorem Try.info23 : (Try.prog.info? 23).map (fun i => (i.zero, i.size, i.bytes)) = some (some (.slice none 0 0), 1, 24) := by kernel_rfl

theorem copies_zero {B : Nat} {w : World} {S n : Nat} {xs : List Value} (es : List Elem) (hn : es.length = n) (h : w.ownsRow B 23 1 (.slice (some ⟨S, 0, none⟩) n n) n xs) : Copies S w es 0 := by
  rcases h.2 with ⟨e, _⟩ | ⟨g, cap, cur, e, _, hg, hc, _, hs, _⟩
  · cases e
  · have e1 : S = g := by injection e with e1 _ _; injection e1 with e1; injection e1
    have e2 : n = cap := by injection e
    subst e1; subst e2
    have hlt : S < w.heap.size := (Array.getElem?_eq_some_iff.1 hg).1
    refine ⟨hlt, fun k hk => ⟨?_, ?_⟩, fun k _ hk => absurd hk (by omega)⟩
    · refine ⟨cur[k]'(by omega), ?_⟩
      have hk' : k < cur.size := by omega
      simp [World.cell?, hg, hk']
    · simp [World.frozen?, hg]

theorem Copies.stored {S : Nat} {w : World} {es : List Elem} {m : Nat} (h : Copies S w es m) (hm : m < es.length) (ao : Option Addr) (c : Nat) (hr : Rd w ao es[m].2.2) (hb : ∀ b o, ao = some ⟨b, o, none⟩ → S < b) :
    Copies S (w.setCell ⟨S, m, none⟩ (.slice ao es[m].2.2.length c)) es (m + 1) := by
  have hsz : (w.setCell ⟨S, m, none⟩ (.slice ao es[m].2.2.length c)).heap.size = w.heap.size := by simp [World.setCell]
  have hoth : ∀ b, S < b → (w.setCell ⟨S, m, none⟩ (.slice ao es[m].2.2.length c)).heap[b]? = w.heap[b]? := fun b hb => Below.heap_setCell _ _ _ b (by show b ≠ S; omega)
  have rdk : ∀ (a' : Option Addr) (zs : List Int), Rd w a' zs → (∀ b o, a' = some ⟨b, o, none⟩ → S < b) → Rd (w.setCell ⟨S, m, none⟩ (.slice ao es[m].2.2.length c)) a' zs :=
    fun a' zs h1 h2 => h1.of_blocks (by rw [hsz]; exact Nat.le_refl _) fun b o e => hoth b (h2 b o e)
  obtain ⟨⟨u, hu⟩, hf⟩ := h.2.1 m hm
  have hat : ∀ k, (w.setCell ⟨S, m, none⟩ (.slice ao es[m].2.2.length c)).cell? ⟨S, k, none⟩ = if k = m then some (.slice ao es[m].2.2.length c) else w.cell? ⟨S, k, none⟩ := by
    intro k
    by_cases e : k = m
    · subst e; rw [if_pos rfl]; exact World.cell?_setCell_same _ _ _ hu
    · rw [if_neg e]; exact World.cell?_setCell_other _ _ _ _ (by intro e'; injection e' with _ e' _; exact e e'.symm)
  refine ⟨by rw [hsz]; exact h.1, fun k hk => ⟨?_, ?_⟩, fun k hk hkm => ?_⟩
  · rw [hat]
    by_cases e : k = m
    · exact ⟨_, if_pos e⟩
    · rw [if_neg e]; exact (h.2.1 k hk).1
  · rw [World.frozen?_setCell]; exact (h.2.1 k hk).2
  · by_cases e : k = m
    · subst e
      exact ⟨ao, c, by rw [hat, if_pos rfl], rdk _ _ hr hb, hb⟩
    · obtain ⟨a', c', h1, h2, h3⟩ := h.2.2 k hk (by omega)
      exact ⟨a', c', by rw [hat, if_neg e]; exact h1, rdk _ _ h2 h3, h3⟩

theorem Lie.stored {B : Nat} {w : World} {L S : Nat} {es : List Elem} (h : Lie B w L es) (hL : L < S) (hS : ∀ k (h : k < es.length) g, blk es[k].1 = some g → g < S) (m : Nat) (u : Value) : Lie B (w.setCell ⟨S, m, none⟩ u) L es := by
  have hoth : ∀ b, b ≠ S → (w.setCell ⟨S, m, none⟩ u).heap[b]? = w.heap[b]? := fun b hb => Below.heap_setCell _ _ _ b hb
  refine ⟨by rw [show (w.setCell ⟨S, m, none⟩ u).heap.size = w.heap.size by simp [World.setCell]]; exact h.1, fun k hk => ⟨?_, ?_⟩⟩
  · rw [World.cell?_of_block (w := w) (a := ⟨L, k, none⟩) (hoth L (by omega))]; exact (h.2 k hk).1
  · exact (h.2 k hk).2.keep fun g hg _ => hoth g (by have := hS k hk g hg; omega)

set_option maxHeartbeats 2000000 in
theorem apart_yes (B L N C : Nat) (es : List Elem) (w : World) (hN : es.length = N) (hNC : N ≤ C) (hNb : N ≤ 1000) (hC : C ≤ 1000000) (hB : B ≤ w.heap.size) (hBL : B ≤ L) (hlie : Lie B w L es) (hap : Apart L es) (hsm : ∀ k (h : k < es.length), es[k].2.2.length ≤ 140737488355328) :
    Calls Try.prog 19 #[.slice (some ⟨L, 0, none⟩) N C] w fun e w' => e = .returned (.bool true) ∧ Below B w w' := by
  have HN : Hid (es.length = N) := hN
  have HL : Hid (Lie B w L es) := hlie
  have HA : Hid (Apart L es) := hap
  have HS : Hid (∀ k (h : k < es.length), es[k].2.2.length ≤ 140737488355328) := hsm
  clear hN hlie hap hsm
  obtain ⟨i23, hi, hz0, hz1, hz2⟩ := info_parts Try.info23
  have HI : Hid (Try.prog.info? 23 = some i23 ∧ i23.zero = some (.slice none 0 0) ∧ i23.size = 1 ∧ i23.bytes = 24) := ⟨hi, hz0, hz1, hz2⟩
  clear hi hz0 hz1 hz2
  go_enter Try.func19, Try.ntmps19
  go_wp2_with fail
  go_loopw [3] (fun i wr => ∃ k : Nat, k ≤ N ∧ i = .int .i64 k ∧ Hid (Lie B wr L es) ∧ Below B w wr) (fun i _ => N - (intOf i).toNat)
  case atStart => exact ⟨0, by omega, rfl, HL, Below.refl _ _⟩
  case round =>
    obtain ⟨i, hi, rfl, HD, hbel⟩ := hrel
    by_cases hlt : i < N
    · have hlt' : (i : Int) < (N : Int) := by omega
      have hBr : B ≤ wr.heap.size := Nat.le_trans hB hbel.size
      go_wp2_with (at_make; refine wpList_make_full _ rfl _ _ _ rfl wr.heap.size 23 i23 (.slice none 0 0) 1 Try.underlying37 HI.out.1 HI.out.2.1 HI.out.2.2.1 _ _ _ _ N rfl rfl rfl rfl (by rw [HI.out.2.2.2]; omega) (by simp only [maxLen]; omega) (Nat.le_refl _) ?_; intro w1 hown hgr)
      have hbel1 : Below wr.heap.size wr w1 := ⟨hgr.os, hgr.tape, hgr.output, hgr.size, fun k hk => hgr.block k hk (by simp)⟩
      obtain ⟨S, hS⟩ : ∃ S, S = wr.heap.size := ⟨_, rfl⟩
      have HLS : Hid (∀ k (h : k < es.length) g, blk es[k].1 = some g → g < S) := fun k h g hg => by rw [hS]; exact ((HD.out.2 k h).2.lt g hg).2
      have hLS : L < S := by rw [hS]; exact HD.out.1
      have hBS : B ≤ S := by rw [hS]; exact hBr
      have HC0 : Hid (Copies S w1 es 0) := by rw [hS]; exact copies_zero es HN.out hown
      have HD1 : Hid (Lie B w1 L es) := HD.out.below hbel1
      have hb1 : Below B w w1 := hbel.trans (hbel1.mono hBr)
      rw [← hS]
      clear hown hgr hbel1 HD hbel hBr hS
      go_loopw [5] (fun x w2 => ∃ k : Nat, k ≤ N ∧ x = .int .i64 k ∧ Hid (Lie B w2 L es) ∧ Hid (Copies S w2 es k) ∧ Below B w w2) (fun x _ => N - (intOf x).toNat)
      case atStart => exact ⟨0, by omega, rfl, HD1, HC0, hb1⟩
      case round =>
        obtain ⟨k, hk, rfl, HD2, HC2, hb2⟩ := hrel
        clear HD1 HC0 hb1
        by_cases hkl : k < N
        · have hkl' : (k : Int) < (N : Int) := by omega
          have hke : k < es.length := by rw [HN.out]; exact hkl
          obtain ⟨ao, hao⟩ : ∃ ao, es[k].1 = ao := ⟨_, rfl⟩
          obtain ⟨n, hn⟩ : ∃ n, es[k].2.1 = n := ⟨_, rfl⟩
          obtain ⟨c, hc⟩ : ∃ c, es[k].2.2.length = c := ⟨_, rfl⟩
          have hcL := (HD2.out.2 k hke).1
          rw [hao, hn, hc] at hcL
          have hle := (HD2.out.2 k hke).2.le
          rw [hn, hc] at hle
          obtain ⟨hnc, hcm⟩ := hle
          unfold maxLen at hcm
          have HX : Hid (∀ W : World, Below B w W → Lie B W L es → Copies S W es k → Calls Try.prog 27 #[.slice ao c c] W fun e w' => ∃ a' c', e = .returned (.slice a' c c') ∧ w'.cell? ⟨L, k, none⟩ = some (.slice ao n c) ∧ (∃ u, w'.cell? ⟨S, k, none⟩ = some u) ∧ w'.frozen? ⟨S, k, none⟩ = false ∧ Hid (Below B w w' ∧ Lie B w' L es ∧ Copies S w' es k ∧ Rd w' a' es[k].2.2 ∧ ∀ b o, a' = some ⟨b, o, none⟩ → S < b)) := by
            intro W h0 h1 h2
            have hx := copy_any ao c es[k].2.2 W (by rw [← hao]; exact (h1.2 k hke).2.rd) (by rw [← hao, ← hc]; exact (h1.2 k hke).2.nil) (HS.out k hke)
            rw [hc] at hx
            refine hx.mono ?_
            rintro e w' ⟨v, ys, rfl, hO, hT, hbl⟩
            obtain ⟨a', rfl, hOA⟩ := hO.addr
            have l1 := h1.below hbl
            have c1 := h2.below hbl
            refine ⟨a', _, rfl, ?_, (c1.2.1 k hke).1, (c1.2.1 k hke).2, h0.trans (hbl.mono (Nat.le_trans hB h0.size)), l1, c1, ?_, ?_⟩
            · have := (l1.2 k hke).1
              rw [hao, hn, hc] at this
              exact this
            · have := hOA.rdTake c
              rw [hT] at this
              exact this
            · rintro b o rfl
              have := (hOA.lt b rfl).1
              have := h2.1
              omega
          clear hao hn
          have HC : Hid (es[k].2.2.length = c) := hc
          clear hc
          have hne : ¬ S = L := by omega
          go_wp2_with fail
          go_region_held3 (fun W => W.cell? ⟨L, k, none⟩ = some (.slice ao n c)) (go_keep) (first
            | (go_at_call 27; refine (HX.out _ ?_ ?_ ?_).mono ?_; exact hb2.drew; exact HD2.out.below (Below.refl _ _).drew; exact HC2.out.below (Below.refl _ _).drew; rintro e w3 ⟨a', c', rfl, hcl, ⟨u, hcu⟩, hfr, HH⟩))
          obtain ⟨q1, q2, q3, q4, q5⟩ := HH.out
          have hst : Copies S (w3.setCell ⟨S, k, none⟩ (.slice a' c c')) es (k + 1) := by
            have := q3.stored hke a' c' q4 q5
            rw [HC.out] at this
            exact this
          have hli : Lie B (w3.setCell ⟨S, k, none⟩ (.slice a' c c')) L es := q2.stored hLS HLS.out k _
          have hbb : Below B w (w3.setCell ⟨S, k, none⟩ (.slice a' c c')) := q1.setCell hBS _
          clear q1 q2 q3 q4 q5 hcl hcu hfr
          go_wp2
          exact ⟨⟨k + 1, by omega, by go_num, hli, hst, hbb⟩, by simp [intOf]; omega⟩
        · have HC3 : Hid (Copies S wr es N) := by
            have e : k = N := by omega
            rw [← e]; exact HC2
          clear HC2
          have hie : i < es.length := by rw [HN.out]; exact hlt
          obtain ⟨ao, hao⟩ : ∃ ao, es[i].1 = ao := ⟨_, rfl⟩
          obtain ⟨n, hn⟩ : ∃ n, es[i].2.1 = n := ⟨_, rfl⟩
          obtain ⟨c, hc⟩ : ∃ c, es[i].2.2.length = c := ⟨_, rfl⟩
          have hcL := (HD2.out.2 i hie).1
          rw [hao, hn, hc] at hcL
          have HO : Hid (OwnA B wr ao n es[i].2.2) := by
            have := (HD2.out.2 i hie).2
            rw [hao, hn] at this; exact this
          have HV : Hid (es[i].1 = ao ∧ es[i].2.1 = n ∧ es[i].2.2.length = c) := ⟨hao, hn, hc⟩
          clear hao hn hc
          have HY : Hid (∀ (W : World) (zs : List Int), OwnA B W ao n zs → zs.length = c → Calls Try.prog 28 #[.slice ao n c] W fun e w' => e = .returned (.tuple #[]) ∧ Hid (OwnA B w' ao n (zs.map x90) ∧ W.grownBy w' (blk ao) ∧ w'.heap.size = W.heap.size)) := by
            intro W zs h1 h2
            have := over_any B ao n zs W h1
            rw [h2] at this
            exact this
          go_wp2_with fail
          refine (HY.out _ _ HO.out HV.out.2.2).mono ?_
          rintro e w4 ⟨rfl, HW⟩
          obtain ⟨q1, q2, q3⟩ := HW.out
          obtain ⟨v1, v2, v3⟩ := HV.out
          obtain ⟨es', hes'⟩ : ∃ es', es' = es.set i (es[i].1, es[i].2.1, es[i].2.2.map x90) := ⟨_, rfl⟩
          have HD4 : Hid (Lie B w4 L es') := by
            rw [hes']
            exact HD2.out.wrote HA.out i hie _ (by simp) (by rw [v1]; exact q2) q3 (by rw [v1, v2]; exact q1)
          have hrow : ∀ g, blk ao = some g → g < S ∧ B ≤ g := by
            intro g hg
            rw [← v1] at hg
            exact ⟨HLS.out i hie g hg, ((HD2.out.2 i hie).2.lt g hg).1⟩
          have HC4 : Hid (Copies S w4 es N) := HC3.out.wrote q2 (fun g hg => (hrow g hg).1)
          have hb4 : Below B w w4 := hb2.grown q2 (Nat.le_trans hB hb2.size) (fun g hg => (hrow g hg).2)
          have HE : Hid (es' = es.set i (es[i].1, es[i].2.1, es[i].2.2.map x90)) := hes'
          have HRW : Hid (∀ g, blk ao = some g → g < S ∧ B ≤ g) := hrow
          clear q1 q2 q3 v1 v2 v3 hes' hrow HD2 HC3 hb2 HO hcL HW
          go_wp2_with fail
          go_loopw [2, 6] (fun _ x w5 => ∃ k : Nat, k ≤ N ∧ x = .int .i64 k ∧ Hid (Lie B w5 L es') ∧ Hid (Copies S w5 es N) ∧ Below B w w5) (fun _ x _ => N - (intOf x).toNat)
          case atStart => exact ⟨0, by omega, rfl, HD4, HC4, hb4⟩
          case round =>
            obtain ⟨m, hm, rfl, HD5, HC5, hb5⟩ := hrel
            clear HD4 HC4 hb4
            by_cases hml : m < N
            · have hml' : (m : Int) < (N : Int) := by omega
              have hme : m < es.length := by rw [HN.out]; exact hml
              by_cases hmi : m = i
              · have hg1 : ((m : Int) != (i : Int)) = false := by simp [hmi]
                clear hmi
                go_wp2_with fail
                go_quiet (fail)
                have hdn : Below wr.heap.size wr (wr.drewN nq) := ⟨rfl, rfl, rfl, Nat.le_refl _, fun _ _ => rfl⟩
                have hli := HD5.out.below hdn
                have hco := HC5.out.below hdn
                have hbb := hb5.trans (hdn.mono (Nat.le_trans hB hb5.size))
                clear hdn
                go_wp2
                exact ⟨⟨m + 1, by omega, by go_num, hli, hco, hbb⟩, by simp [intOf]; omega⟩
              · have hg1 : ((m : Int) != (i : Int)) = true := by simp; omega
                have hm' : m < es'.length := by rw [HE.out]; simpa using hme
                have hsame : es'[m] = es[m] := by
                  have e := HE.out
                  subst e
                  exact List.getElem_set_ne (fun e => hmi e.symm) _
                obtain ⟨am, ham⟩ : ∃ x, es[m].1 = x := ⟨_, rfl⟩
                obtain ⟨nm, hnm⟩ : ∃ x, es[m].2.1 = x := ⟨_, rfl⟩
                obtain ⟨cm, hcm⟩ : ∃ x, es[m].2.2.length = x := ⟨_, rfl⟩
                have hL5 := HD5.out.2 m hm'
                rw [hsame] at hL5
                obtain ⟨hcl, ho5⟩ := hL5
                obtain ⟨a', c', hcs, hrd, _⟩ := HC5.out.2.2 m hme hml
                rw [ham, hnm, hcm] at hcl
                rw [hcm] at hcs
                have hle := ho5.le
                rw [hnm, hcm] at hle
                obtain ⟨hnc, hcmx⟩ := hle
                unfold maxLen at hcmx
                have hrd1 := ho5.rd
                rw [ham] at hrd1
                have HZ : Hid (∀ W : World, Below wr.heap.size wr W → Calls Try.prog 16 #[.slice am cm cm, .slice a' cm c'] W fun e w' => e = .returned (.bool true) ∧ w' = W) := by
                  intro W hW
                  exact same_yes am a' cm cm c' _ W (hrd1.below hW) (hrd.below hW) hcm
                clear hsame ham hnm hcm ho5 hrd hrd1 hmi hm'
                go_wp2_with fail
                go_region_held3 (fun W => W.cell? ⟨L, m, none⟩ = some (.slice am nm cm) ∧ W.cell? ⟨S, m, none⟩ = some (.slice a' cm c')) (go_keep) (first
                  | (go_at_call 16; refine (HZ.out _ ?_).mono ?_; exact (Below.refl _ _).drew; rintro e w6 ⟨rfl, rfl⟩))
                have hdn : Below wr.heap.size wr wr.drew := (Below.refl _ _).drew
                have hli := HD5.out.below hdn
                have hco := HC5.out.below hdn
                have hbb := hb5.trans (hdn.mono (Nat.le_trans hB hb5.size))
                clear hdn hcl hcs
                go_wp2
                exact ⟨⟨m + 1, by omega, by go_num, hli, hco, hbb⟩, by simp [intOf]; omega⟩
            · have HO : Hid (OwnA B wr ao n (es[i].2.2.map x90)) := by
                have e := HE.out
                subst e
                have := (HD5.out.2 i (by simpa using hie)).2
                rw [List.getElem_set_self] at this
                rw [HV.out.1, HV.out.2.1] at this
                exact this
              have hcL : wr.cell? ⟨L, i, none⟩ = some (.slice ao n c) := by
                have e := HE.out
                subst e
                have := (HD5.out.2 i (by simpa using hie)).1
                rw [List.getElem_set_self] at this
                simp only [List.length_map] at this
                rw [HV.out.1, HV.out.2.1, HV.out.2.2] at this
                exact this
              go_wp2_with fail
              refine (HY.out _ _ HO.out (by rw [List.length_map]; exact HV.out.2.2)).mono ?_
              rintro e w7 ⟨rfl, HW⟩
              obtain ⟨q1, q2, q3⟩ := HW.out
              obtain ⟨v1, v2, v3⟩ := HV.out
              have hli : Lie B w7 L es := by
                have e := HE.out
                have hes : es = es'.set i (es[i].1, es[i].2.1, (es[i].2.2.map x90).map x90) := by
                  rw [e, List.set_set, map_x90_x90 _ (HL.out.2 i hie).2.rd.2]
                  exact (List.set_getElem_self hie).symm
                have hi' : i < es'.length := by rw [e]; simpa using hie
                have e1 : es'[i] = (es[i].1, es[i].2.1, es[i].2.2.map x90) := by subst e; exact List.getElem_set_self _
                have hw := HD5.out.wrote (by rw [e]; exact HA.out.set i hie _) i hi' ((es[i].2.2.map x90).map x90) (by rw [e1]; simp) (by rw [e1]; show World.grownBy _ _ (blk es[i].1); rw [v1]; exact q2) q3 (by rw [e1]; show OwnA B w7 es[i].1 es[i].2.1 _; rw [v1, v2]; exact q1)
                rw [e1] at hw
                rw [hes]
                exact hw
              have hbb : Below B w w7 := hb5.grown q2 (Nat.le_trans hB hb5.size) (fun g hg => (HRW.out g hg).2)
              clear q1 q2 q3 v1 v2 v3 hcL
              go_wp2
              exact ⟨⟨i + 1, by omega, by go_num, hli, hbb⟩, by simp [intOf]; omega⟩
    · obtain rfl : i = N := by omega
      go_wp2
      go_ret
      exact ⟨rfl, hbel⟩
end Go.Proofs.Ytglkjiebcmmglaa
