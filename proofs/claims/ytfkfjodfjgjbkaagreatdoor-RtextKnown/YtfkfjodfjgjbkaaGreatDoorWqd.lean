/- Texts laid together: Nxa Nxf Nxg Nxj Nxh Pb Dsp Dbk. -/
import Derived.Test.YtfkfjodfjgjbkaaGreatDoorWqc
import Derived.Lib.AppendZerosOnto
/- The program's names, first part: size, check, copy, fold, parent, above. -/
namespace Go.Proofs.YtfkfjodfjgjbkaaGreatDoor
open Go.ChangeShapes Go.WideShapes Go.ChangeAt Go.RowKit
set_option linter.unusedVariables false
set_option linter.unusedSimpArgs false


set_option maxRecDepth 100000 in
set_option maxHeartbeats 1000000 in
theorem psize_eq (a : Option Addr) (len cap : Nat) (ss : List ByteArray) (w : World) (hr : RdT w a ss) (hl : ss.length = len) (hm : nsz ss ≤ 1000000000000000) :
    Calls Tryz.prog 59 #[.slice a len cap] w fun e w' => e = .returned (.int .i64 (nsz ss)) ∧ w' = w := by
  have HR : Hid (RdT w a ss) := hr
  have HL : Hid (ss.length = len) := hl
  have hln : len ≤ 9223372036854775807 := by have := nsz_len ss; omega
  obtain ⟨T, hT⟩ : ∃ T, nsz ss = T := ⟨_, rfl⟩
  have HT : Hid (nsz ss = T) := hT
  rw [hT] at hm ⊢
  clear hr hl hT
  go_enter Tryz.func59, Tryz.ntmps59
  go_wp2_with fail
  go_loop [3, 8] (fun n x => ∃ k m : Nat, k ≤ len ∧ m ≤ T ∧ x = .int .i64 k ∧ n = .int .i64 m ∧ Hid (nsz (ss.take k) = m)) (fun _ x => len - (intOf x).toNat)
  case atStart => exact ⟨0, 1, Nat.zero_le _, by rw [← HT.out]; exact nsz_le ss 0, rfl, rfl, rfl⟩
  case round =>
    obtain ⟨k, m, hk, hmT, rfl, rfl, HM⟩ := hrel
    by_cases hlt : k < len
    · have hlt' : (k : Int) < (len : Int) := by omega
      have hks : k < ss.length := by rw [HL.out]; exact hlt
      obtain ⟨b, o, rfl, hb, hc⟩ := HR.out.at k hks
      have hn : nsz (ss.take (k + 1)) = m + ss[k].size + 1 := by rw [take_snocT ss k hks, nsz_snoc, HM.out]
      have hle := nsz_le ss (k + 1)
      rw [hn, HT.out] at hle
      have HN : Hid (nsz (ss.take (k + 1)) = m + ss[k].size + 1) := hn
      clear hn
      generalize ss[k] = s at *
      go_wp2
      go_round
      case rel => exact ⟨k + 1, m + s.size + 1, by omega, hle, by go_num, by go_num, HN⟩
      case measure => simp [intOf]; omega
    · have hge : (len : Int) ≤ (k : Int) := by omega
      have e : m = T := by rw [← HM.out, ← HT.out, List.take_of_length_le (by rw [HL.out]; omega)]
      subst e
      go_wp2
      go_ret
      exact ⟨rfl, rfl⟩
set_option maxRecDepth 100000 in
set_option maxHeartbeats 1000000 in
theorem pcheck_eq (a : Option Addr) (len cap : Nat) (ss : List ByteArray) (w : World) (hr : RdT w a ss) (hl : ss.length = len) (hm : nsz ss ≤ 1000000000000000) (hlen : len ≤ 9223372036854775807) (hz : ∀ s ∈ ss, s.size ≤ 9223372036854775807) :
    Calls Tryz.prog 25 #[.slice a len cap] w fun e w' => e = .returned (.int .i64 (nck ss)) ∧ w' = w := by
  have HR : Hid (RdT w a ss ∧ ∀ s ∈ ss, s.size ≤ 9223372036854775807) := ⟨hr, hz⟩
  have HL : Hid (ss.length = len) := hl
  have HS : Hid (∀ W, RdT W a ss → Calls Tryz.prog 59 #[.slice a len cap] W fun e w' => e = .returned (.int .i64 (nsz ss)) ∧ w' = W) := fun W hW => psize_eq a len cap ss W hW hl hm
  obtain ⟨T, hT⟩ : ∃ T, nsz ss = T := ⟨_, rfl⟩
  have HT : Hid (nsz ss = T) := hT
  rw [hT] at hm HS
  clear hr hl hT hz
  go_enter Tryz.func25, Tryz.ntmps25
  go_wp2_with fail
  go_loopw [8] (fun x wr => ∃ k : Nat, k ≤ len ∧ x = .int .i64 k ∧ wr = w ∧ Hid (∀ i (h : i < ss.length), i < k → chk ss[i].size = 0)) (fun x _ => len - (intOf x).toNat)
  case atStart => exact ⟨0, Nat.zero_le _, rfl, rfl, fun i _ h => absurd h (by omega)⟩
  case round =>
    obtain ⟨k, hk, rfl, rfl, HK⟩ := hrel
    by_cases hlt : k < len
    · have hlt' : (k : Int) < (len : Int) := by omega
      have hks : k < ss.length := by rw [HL.out]; exact hlt
      obtain ⟨b, o, rfl, hb, hc⟩ := HR.out.1.at k hks
      have HC : Hid (∀ W, Calls Tryz.prog 58 #[.string ss[k]] W fun e w' => e = .returned (.int .i64 (chk ss[k].size)) ∧ w' = W) := fun W => chk_any ss[k] W (HR.out.2 _ (List.getElem_mem hks))
      rcases chk_cases ss[k].size with hk0 | hk4
      · have HN : Hid (∀ i (h : i < ss.length), i < k + 1 → chk ss[i].size = 0) := by
          intro i h hi
          by_cases e : i = k
          · subst e; exact hk0
          · exact HK.out i h (by omega)
        rw [hk0] at HC
        clear hk0 HK
        generalize ss[k] = s at *
        go_wp2_with fail
        refine (HC.out _).mono ?_
        rintro e w1 ⟨rfl, rfl⟩
        go_wp2
        exact ⟨⟨k + 1, by omega, by go_num, trivial, HN⟩, by simp [intOf]; omega⟩
      · have HE : Hid (nck ss = 4) := by
          show nck ss = 4
          unfold nck
          rw [if_neg (fun h => by have := h _ (List.getElem_mem hks); rw [hk4] at this; cases this)]
        rw [hk4] at HC
        clear hk4 HK
        generalize ss[k] = s at *
        go_wp2_with fail
        refine (HC.out _).mono ?_
        rintro e w1 ⟨rfl, rfl⟩
        go_wp2
        go_ret
        exact ⟨by rw [HE.out]; rfl, rfl⟩
    · have hge : (len : Int) ≤ (k : Int) := by omega
      have HO : Hid (labsOk ss) := by
        intro s hs
        obtain ⟨i, hi, rfl⟩ := List.getElem_of_mem hs
        exact HK.out i hi (by have := HL.out; omega)
      by_cases hb : 255 < T
      · have HE : Hid (nck ss = 5) := by show nck ss = 5; unfold nck; rw [if_pos HO.out, HT.out, if_pos hb]
        have hb' : (255 : Int) < (T : Int) := by omega
        clear HK HO
        go_wp2_with fail
        refine (HS.out _ HR.out.1).mono ?_
        rintro e w1 ⟨rfl, rfl⟩
        go_wp2
        go_ret
        exact ⟨by rw [HE.out]; rfl, rfl⟩
      · have HE : Hid (nck ss = 0) := by show nck ss = 0; unfold nck; rw [if_pos HO.out, HT.out, if_neg hb]
        have hb' : ¬ (255 : Int) < (T : Int) := by omega
        clear HK HO
        go_wp2_with fail
        refine (HS.out _ HR.out.1).mono ?_
        rintro e w1 ⟨rfl, rfl⟩
        go_wp2
        go_ret
        exact ⟨by rw [HE.out]; rfl, rfl⟩
theorem pm_check {a : Option Addr} {n : Nat} {ss : List ByteArray} {w : World} (c : Nat) (h : Nm w a n ss) : Calls Tryz.prog 25 #[.slice a n c] w fun e w' => e = .returned (.int .i64 (nck ss)) ∧ w' = w :=
  pcheck_eq a n c ss w h.rd h.len (by have := h.sz; omega) (by have := h.n63; omega) (fun s hs => by have := h.mem s hs; omega)
theorem pcheck_any (a : Option Addr) (n c : Nat) (ss : List ByteArray) (w : World) (h : Nm w a n ss) : Calls Tryz.prog 25 #[.slice a n c] w fun e w' => e = .returned (.int .i64 (nck ss)) ∧ Hid (Below w.heap.size w w') :=
  (pm_check c h).mono fun e w' h => ⟨h.1, by rw [h.2]; exact Below.refl _ _⟩
theorem psize_any (a : Option Addr) (n c : Nat) (ss : List ByteArray) (w : World) (h : Nm w a n ss) : Calls Tryz.prog 59 #[.slice a n c] w fun e w' => e = .returned (.int .i64 (nsz ss)) ∧ Hid (Below w.heap.size w w') :=
  (psize_eq a n c ss w h.rd h.len (by have := h.sz; omega)).mono fun e w' h => ⟨h.1, by rw [h.2]; exact Below.refl _ _⟩
set_option maxRecDepth 100000 in
set_option maxHeartbeats 800000 in
theorem pcopy_eq (a : Option Addr) (cap len : Nat) (ss : List ByteArray) (M : Nat) (w : World) (hr : RdT w a ss) (hl : ss.length = len) (hM : ∀ s ∈ ss, s.size ≤ M) (hm : len ≤ 8796093022000) :
    Calls Tryz.prog 159 #[.slice a len cap] w (CopyPost ss M w) := by
  have HR : Hid (RdT w a ss ∧ ∀ s ∈ ss, s.size ≤ M) := ⟨hr, hM⟩
  have HL : Hid (ss.length = len) := hl
  clear hr hl hM
  go_enter Tryz.func159, Tryz.ntmps159
  go_wp2_with (at_builtin; refine wpList_append_T tyN _ rfl _ _ 45 9 Tryz.underlying45 rfl w.heap.size _ 0 [] M rfl (OwnT.nil _ _ _) a len cap ss rfl HR.out.1 HL.out HR.out.2 (by omega) (Nat.le_refl _) ?_; intro v' w' ys hO hT hG)
  go_ret
  refine ⟨v', ys, rfl, ?_, ?_, ?_⟩
  · have h := hO.out
    rw [Nat.zero_add, ← HL.out] at h
    exact h
  · have h := hT.out
    rw [Nat.zero_add, ← HL.out] at h
    simpa using h
  · exact (Below.refl _ _).grown hG (Nat.le_refl _) (by intro k hk; cases hk)
theorem pm_copy {a : Option Addr} {n : Nat} {ss : List ByteArray} {w : World} (c : Nat) (h : Nm w a n ss) : Calls Tryz.prog 159 #[.slice a n c] w (CopyPost ss 1000000000000 w) :=
  pcopy_eq a c n ss 1000000000000 w h.rd h.len h.mem (by have := h.n63; omega)
theorem pcopy_any (a : Option Addr) (n c : Nat) (ss : List ByteArray) (w : World) (h : Nm w a n ss) : Calls Tryz.prog 159 #[.slice a n c] w (CopyPost ss 1000000000000 w) := pm_copy c h
end Go.Proofs.YtfkfjodfjgjbkaaGreatDoor
/- The program's names: joined. -/
namespace Go.Proofs.YtfkfjodfjgjbkaaGreatDoor
open Go.ChangeShapes Go.WideShapes Go.ChangeAt Go.RowKit
set_option linter.unusedVariables false
set_option linter.unusedSimpArgs false


def GrowPost (w : World) (e : Ending) (w' : World) : Prop := ∃ v ys, e = .returned v ∧ Hid (OwnT w.heap.size w' v 0 ys 1000000000000 ∧ Below w.heap.size w w')
set_option maxRecDepth 100000 in
set_option maxHeartbeats 1000000 in
theorem grow_any (N : Nat) (w : World) (hN : N ≤ 8796093022000) : Calls Tryz.prog 199 #[.slice none 0 0, .int .i64 N] w (GrowPost w) := by
  by_cases h0 : N = 0
  · subst h0
    go_enter Tryz.func199, Tryz.ntmps199
    go_wp2
    go_ret
    exact ⟨_, [], rfl, OwnT.nil _ _ _, Below.refl _ _⟩
  · obtain ⟨i, hi, hz0, hz1, hz2⟩ := info_parts tyN.hi
    have hr : ∀ ty, (Builtin.append_ #[45, 3] ty #[.slice none 0 0, .int .i64 N]).run Tryz.prog w = .ok (.slice (some ⟨w.heap.size, 0, none⟩) N (grownCap w N 0 9)) (w.drew.alloc (.cells (tv (List.replicate (grownCap w N 0 9) ⟨#[]⟩)).toArray 9)) := by
      intro ty
      have hge := grownCap_ge w N 0 9
      have h := Lib.run_append_grow_zeros w 45 3 ty 9 i (.string ⟨#[]⟩) .i64 .i64 Tryz.underlying45 (by kernel_rfl) hi hz0 none 0 0 [] (run_firstCells_none w.drew i.size 0 0 0) N (by omega) (by omega) (by omega) (by omega) (by rw [hz2]; omega) (growslice_fits (by omega) (by rw [hz2]; omega))
      simp only [Nat.zero_add] at h
      rw [h, zeros_eq1 _ tyN.hz, zeros_eq1 _ tyN.hz]
      have e : (([] : List Value).toArray ++ (List.replicate N (Value.string ⟨#[]⟩)).toArray ++ (List.replicate (grownCap w N 0 9 - N) (Value.string ⟨#[]⟩)).toArray) = (tv (List.replicate (grownCap w N 0 9) ⟨#[]⟩)).toArray := by
        simp only [tv, List.map_replicate, List.append_toArray, List.nil_append, List.replicate_append_replicate]
        congr 2
        omega
      rw [e]
    have hG1 := grownCap_ge w N 0 9
    have hG2 := grownCap_le_maxLen w N 0 9 (by unfold maxLen; omega)
    generalize grownCap w N 0 9 = G at *
    have HP : Hid (OwnT w.heap.size (w.drew.alloc (.cells (tv (List.replicate G ⟨#[]⟩)).toArray 9)) (.slice (some ⟨w.heap.size, 0, none⟩) 0 G) 0 (List.replicate G ⟨#[]⟩) 1000000000000 ∧ Below w.heap.size w (w.drew.alloc (.cells (tv (List.replicate G ⟨#[]⟩)).toArray 9))) := by
      refine ⟨⟨.inr ⟨w.heap.size, by simp [tv], Nat.le_refl _, heap_alloc_new w.drew _, Nat.zero_le _, by simpa [tv] using hG2⟩, ?_⟩, (Below.refl _ _).drew.alloc (Nat.le_refl _) _⟩
      intro s hs
      rw [List.eq_of_mem_replicate hs]
      exact Nat.zero_le _
    unfold maxLen at hG2
    have hn : ¬ (N : Int) < 0 := by omega
    have hp : (0 : Int) < (N : Int) := by omega
    generalize w.drew.alloc (.cells (tv (List.replicate G ⟨#[]⟩)).toArray 9) = W2 at *
    clear hi hz0 hz1 hz2
    have HR : Hid (∀ ty, (Builtin.append_ #[45, 3] ty #[.slice none 0 0, .int .i64 N]).run Tryz.prog w = .ok (.slice (some ⟨w.heap.size, 0, none⟩) N G) W2) := hr
    clear hr
    go_enter Tryz.func199, Tryz.ntmps199
    go_wp2_with (at_builtin; refine Lib.wpList_append_run _ rfl _ _ _ _ rfl _ _ rfl rfl _ _ (HR.out _) ?_)
    go_ret
    exact ⟨_, _, rfl, HP⟩
set_option maxRecDepth 100000 in
set_option maxHeartbeats 2000000 in
theorem concat_any (g : Nat) (a b : Option Addr) (n m c d : Nat) (ss ts : List ByteArray) (w : World) (hg : g < w.heap.size) (c0 : w.cell? ⟨g, 0, none⟩ = some (.slice a n c)) (c1 : w.cell? ⟨g, 1, none⟩ = some (.slice b m d)) (h : Nm w a n ss) (h' : Nm w b m ts) :
    Calls Tryz.prog 187 #[.slice (some ⟨g, 0, none⟩) 2 2] w (CopyPost (ss ++ ts) 1000000000000 w) := by
  have HN : Hid (Nm w a n ss ∧ Nm w b m ts) := ⟨h, h'⟩
  have HL : Hid (ss.length = n ∧ ts.length = m) := ⟨h.len, h'.len⟩
  have hn := h.n63
  have hm := h'.n63
  clear h h'
  go_enter Tryz.func187, Tryz.ntmps187
  go_wp2_with fail
  go_loopw [3, 11] (fun z x wr => ∃ k q : Nat, z = .int .i64 q ∧ x = .int .i64 k ∧ wr = w ∧ Hid ((k = 0 ∧ q = 0) ∨ (k = 1 ∧ q = n) ∨ (k = 2 ∧ q = n + m))) (fun _ x _ => 2 - (intOf x).toNat)
  case atStart => exact ⟨0, 0, rfl, rfl, rfl, .inl ⟨rfl, rfl⟩⟩
  case round =>
    obtain ⟨k, q, rfl, rfl, rfl, HK⟩ := hrel
    rcases HK.out with ⟨rfl, rfl⟩ | ⟨rfl, rfl⟩ | ⟨rfl, rfl⟩
    · clear HK
      have hq : ¬ (n : Int) < 0 := by omega
      go_wp2
      exact ⟨⟨1, n, by go_num, rfl, trivial, .inr (.inl ⟨rfl, rfl⟩)⟩, by simp [intOf]⟩
    · clear HK
      have hq : ¬ ((q : Int) + (m : Int)) < 0 := by omega
      go_wp2
      exact ⟨⟨2, q + m, by go_num, rfl, trivial, .inr (.inr ⟨rfl, rfl⟩)⟩, by simp [intOf]⟩
    · clear HK
      go_wp2_with fail
      refine (grow_any (n + m) wr (by omega)).mono ?_
      rintro e w1 ⟨v, ys, rfl, H1⟩
      have c0' := (H1.out.2.cell (p := ⟨g, 0, none⟩) hg).trans c0
      have c1' := (H1.out.2.cell (p := ⟨g, 1, none⟩) hg).trans c1
      obtain ⟨wz, hwz⟩ : ∃ x, x = wr := ⟨_, rfl⟩
      subst hwz
      have HC : Hid (w1.cell? ⟨g, 0, none⟩ = some (.slice a n c) ∧ w1.cell? ⟨g, 1, none⟩ = some (.slice b m d) ∧ g < w1.heap.size) := ⟨c0', c1', Nat.lt_of_lt_of_le hg H1.out.2.size⟩
      clear c0 c1 c0' c1'
      go_wp2_with fail
      go_loopw [6, 27] (fun v x wr => ∃ (k : Nat), x = .int .i64 k ∧ Hid ((k = 0 ∧ ∃ ys, OwnT wz.heap.size wr v 0 ys 1000000000000 ∧ ys.take 0 = []) ∨ (k = 1 ∧ ∃ ys, OwnT wz.heap.size wr v n ys 1000000000000 ∧ ys.take n = ss) ∨ (k = 2 ∧ ∃ ys, OwnT wz.heap.size wr v (n + m) ys 1000000000000 ∧ ys.take (n + m) = ss ++ ts)) ∧ Hid (Below wz.heap.size wz wr ∧ wr.cell? ⟨g, 0, none⟩ = some (.slice a n c) ∧ wr.cell? ⟨g, 1, none⟩ = some (.slice b m d))) (fun _ x _ => 2 - (intOf x).toNat)
      case atStart => exact ⟨0, rfl, .inl ⟨rfl, ys, H1.out.1, rfl⟩, H1.out.2, HC.out.1, HC.out.2.1⟩
      case round =>
        clear H1 HC
        obtain ⟨k, rfl, HK, HB⟩ := hrel
        have c0 := HB.out.2.1
        have c1 := HB.out.2.2
        rcases HK.out with ⟨rfl, zs, h1, h2⟩ | ⟨rfl, zs, h1, h2⟩ | ⟨rfl, zs, h1, h2⟩
        · have HO : Hid (OwnT wz.heap.size wr u6 0 zs 1000000000000 ∧ zs.take 0 = [] ∧ RdT wr a ss ∧ ∀ s ∈ ss, s.size ≤ 1000000000000) := ⟨h1, h2, HN.out.1.rd.below HB.out.1, HN.out.1.mem⟩
          have HC : Hid (wr.cell? ⟨g, 0, none⟩ = some (.slice a n c) ∧ wr.cell? ⟨g, 1, none⟩ = some (.slice b m d)) := ⟨c0, c1⟩
          clear HK h1 h2 c1
          go_wp2_with (at_builtin; refine wpList_append_T tyN _ rfl _ _ 45 9 Tryz.underlying45 rfl wz.heap.size _ 0 zs 1000000000000 rfl HO.out.1 a n c ss rfl HO.out.2.2.1 HL.out.1 HO.out.2.2.2 (by omega) HB.out.1.size ?_; intro v' w' ys' hO' hT' hG')
          have hne : ∀ j, u6.ownBlock = some j → wz.heap.size ≤ j := HO.out.1.1.lt
          refine ⟨⟨1, by go_num, .inr (.inl ⟨rfl, ys', by simpa using hO'.out, by simpa using hT'.out⟩), HB.out.1.grown hG' HB.out.1.size hne, ?_, ?_⟩, by simp [intOf]⟩
          · exact (World.cell?_of_block (hG'.block g (Nat.lt_of_lt_of_le hg HB.out.1.size) (fun e => by have := hne g e.symm; omega))).trans HC.out.1
          · exact (World.cell?_of_block (hG'.block g (Nat.lt_of_lt_of_le hg HB.out.1.size) (fun e => by have := hne g e.symm; omega))).trans HC.out.2
        · have HO : Hid (OwnT wz.heap.size wr u6 n zs 1000000000000 ∧ zs.take n = ss ∧ RdT wr b ts ∧ ∀ s ∈ ts, s.size ≤ 1000000000000) := ⟨h1, h2, HN.out.2.rd.below HB.out.1, HN.out.2.mem⟩
          have HC : Hid (wr.cell? ⟨g, 0, none⟩ = some (.slice a n c) ∧ wr.cell? ⟨g, 1, none⟩ = some (.slice b m d)) := ⟨c0, c1⟩
          clear HK h1 h2 c0
          go_wp2_with (at_builtin; refine wpList_append_T tyN _ rfl _ _ 45 9 Tryz.underlying45 rfl wz.heap.size _ n zs 1000000000000 rfl HO.out.1 b m d ts rfl HO.out.2.2.1 HL.out.2 HO.out.2.2.2 (by omega) HB.out.1.size ?_; intro v' w' ys' hO' hT' hG')
          have hne : ∀ j, u6.ownBlock = some j → wz.heap.size ≤ j := HO.out.1.1.lt
          refine ⟨⟨2, by go_num, .inr (.inr ⟨rfl, ys', hO'.out, by rw [hT'.out, HO.out.2.1]⟩), HB.out.1.grown hG' HB.out.1.size hne, ?_, ?_⟩, by simp [intOf]⟩
          · exact (World.cell?_of_block (hG'.block g (Nat.lt_of_lt_of_le hg HB.out.1.size) (fun e => by have := hne g e.symm; omega))).trans HC.out.1
          · exact (World.cell?_of_block (hG'.block g (Nat.lt_of_lt_of_le hg HB.out.1.size) (fun e => by have := hne g e.symm; omega))).trans HC.out.2
        · have HF : Hid (OwnT wz.heap.size wr u6 (ss ++ ts).length zs 1000000000000 ∧ zs.take (ss ++ ts).length = ss ++ ts ∧ Below wz.heap.size wz wr) := by
            rw [List.length_append, HL.out.1, HL.out.2]
            exact ⟨h1, h2, HB.out.1⟩
          clear HK h1 h2 c0 c1
          go_wp2
          go_ret
          exact ⟨_, zs, rfl, HF⟩
end Go.Proofs.YtfkfjodfjgjbkaaGreatDoor
/- The program's names: joined, under the star. -/
namespace Go.Proofs.YtfkfjodfjgjbkaaGreatDoor
open Go.ChangeShapes Go.WideShapes Go.ChangeAt Go.RowKit
set_option linter.unusedVariables false
set_option linter.unusedSimpArgs false


set_option maxRecDepth 100000 in
theorem may_ok (a : Option Addr) (n c : Nat) (ss : List ByteArray) (w : World) (h : Nm w a n ss) (hk : nck ss = 0) : Calls Tryz.prog 161 #[.slice a n c] w fun e w' => e = .returned (.tuple #[.slice a n c, .int .i64 0]) ∧ w' = w := by
  have K1 : Hid (Calls Tryz.prog 25 #[.slice a n c] w fun e w' => e = .returned (.int .i64 (nck ss)) ∧ w' = w) := pm_check c h
  rw [hk] at K1
  clear h hk
  go_enter Tryz.func161, Tryz.ntmps161
  go_wp2_with fail
  refine K1.out.mono ?_
  rintro e w1 ⟨rfl, rfl⟩
  go_wp2
  go_ret2
  exact ⟨rfl, rfl⟩
set_option maxRecDepth 100000 in
theorem may_no (a : Option Addr) (n c : Nat) (ss : List ByteArray) (w : World) (h : Nm w a n ss) (hk : ¬ nck ss = 0) : Calls Tryz.prog 161 #[.slice a n c] w fun e w' => e = .returned (.tuple #[.slice none 0 0, .int .i64 (nck ss)]) ∧ w' = w := by
  have K1 : Hid (Calls Tryz.prog 25 #[.slice a n c] w fun e w' => e = .returned (.int .i64 (nck ss)) ∧ w' = w) := pm_check c h
  generalize nck ss = q at *
  have hq : (q != 0) = true := bne_iff_ne.2 hk
  clear h hk
  go_enter Tryz.func161, Tryz.ntmps161
  go_wp2_with fail
  refine K1.out.mono ?_
  rintro e w1 ⟨rfl, rfl⟩
  go_wp2
  go_ret2
  exact ⟨rfl, rfl⟩
/-- A list of one's own, if it may be a name. -/
theorem may_own (B : Nat) (w0 : World) (a : Option Addr) (n c : Nat) (ss ys : List ByteArray) (w : World) (hl : ss.length = n) (ho : OwnT B w (.slice a n c) n ys 1000000000000) (ht : ys.take n = ss) (hz : nsz ss ≤ 1000000000000) (hb : Below B w0 w) (hB : B = w0.heap.size) :
    Calls Tryz.prog 161 #[.slice a n c] w fun e w' => NPost (if nck ss = 0 then ss else []) (nck ss) w0 e w' := by
  have hn : Nm w a n ss := ⟨by have := ho.rd n; rw [ht] at this; exact this, hl, hz⟩
  subst hB
  by_cases hk : nck ss = 0
  · rw [if_pos hk, hk]
    refine (may_ok a n c ss w hn hk).mono ?_
    rintro e w' ⟨rfl, rfl⟩
    exact ⟨_, ys, rfl, by rw [hl]; exact ho, by rw [hl]; exact ht, hb⟩
  · rw [if_neg hk]
    refine (may_no a n c ss w hn hk).mono ?_
    rintro e w' ⟨rfl, rfl⟩
    exact npost_none rfl hb
theorem nck_cat {a b : List ByteArray} (h : nck a = 0) (h' : nck b = 0) : nck (a ++ b) = 0 ∨ nck (a ++ b) = 5 := by
  have h1 := (nck_small h).2
  have h2 := (nck_small h').2
  have : labsOk (a ++ b) := by
    intro s hs
    rcases List.mem_append.1 hs with hs | hs
    · exact h1 s hs
    · exact h2 s hs
  unfold nck
  rw [if_pos this]
  by_cases hz : 255 < nsz (a ++ b)
  · rw [if_pos hz]; exact .inr rfl
  · rw [if_neg hz]; exact .inl rfl
set_option maxRecDepth 100000 in
set_option maxHeartbeats 2000000 in
theorem pjoin_any (a b : Option Addr) (n m c d : Nat) (ss ts : List ByteArray) (w : World) (h : Nm w a n ss) (h' : Nm w b m ts) : Calls Tryz.prog 162 #[.slice a n c, .slice b m d] w (NPost (njoin ss ts).1 (njoin ss ts).2 w) := by
  have K1 : Hid (Calls Tryz.prog 25 #[.slice a n c] w fun e w' => e = .returned (.int .i64 (nck ss)) ∧ w' = w) := pm_check c h
  have K2 : Hid (Calls Tryz.prog 25 #[.slice b m d] w fun e w' => e = .returned (.int .i64 (nck ts)) ∧ w' = w) := pm_check d h'
  by_cases hk : nck ss = 0
  · rw [hk] at K1
    by_cases hk2 : nck ts = 0
    · rw [hk2] at K2
      have z1 := nck_small hk
      have z2 := nck_small hk2
      have hJ : nsz (ss ++ ts) ≤ 1000000000000 := by have := nsz_append ss ts; omega
      have hlen : (ss ++ ts).length = n + m := by rw [List.length_append, h.len, h'.len]
      have hj : njoin ss ts = (if nck (ss ++ ts) = 0 then ss ++ ts else [], nck (ss ++ ts)) := by
        unfold njoin
        rw [if_pos hk, if_pos hk2]
        rcases nck_cat hk hk2 with e | e
        · rw [if_pos e, if_pos e, e]
        · rw [if_neg (by omega), if_neg (by omega), e]
      rw [hj]
      have hb : Below w.heap.size w (w.alloc (.cells #[.slice a n c, .slice b m d] 45)) := (Below.refl _ _).alloc (Nat.le_refl _) _
      have KC : Hid (Calls Tryz.prog 187 #[.slice (some ⟨w.heap.size, 0, none⟩) 2 2] (w.alloc (.cells #[.slice a n c, .slice b m d] 45)) (CopyPost (ss ++ ts) 1000000000000 (w.alloc (.cells #[.slice a n c, .slice b m d] 45)))) :=
        concat_any w.heap.size a b n m c d ss ts _ (by simp) (by simp [go_sem]) (by simp [go_sem]) (h.below hb) (h'.below hb)
      have KM : Hid (∀ W v ys, OwnT w.heap.size W v (ss ++ ts).length ys 1000000000000 → ys.take (ss ++ ts).length = ss ++ ts → Below w.heap.size w W → ∃ ao, v = .slice ao (n + m) ys.length ∧ Calls Tryz.prog 161 #[.slice ao (n + m) ys.length] W fun e w' => NPost (if nck (ss ++ ts) = 0 then ss ++ ts else []) (nck (ss ++ ts)) w e w') := by
        intro W v ys ho ht hB
        obtain ⟨ao, hv, _⟩ := ho.shape
        rw [hlen] at hv ho ht
        subst hv
        exact ⟨ao, rfl, may_own w.heap.size w ao (n + m) ys.length (ss ++ ts) ys W hlen ho ht hJ hB rfl⟩
      have HB : Hid (Below w.heap.size w (w.alloc (.cells #[.slice a n c, .slice b m d] 45))) := hb
      clear h h' hk hk2 z1 z2 hj hb hJ hlen
      generalize (if nck (ss ++ ts) = 0 then ss ++ ts else []) = R at *
      generalize nck (ss ++ ts) = q at *
      go_enter Tryz.func162, Tryz.ntmps162
      go_wp2_with fail
      refine K1.out.mono ?_
      rintro e w1 ⟨rfl, rfl⟩
      go_wp2_with fail
      refine K2.out.mono ?_
      rintro e w1 ⟨rfl, rfl⟩
      go_wp2_with fail
      refine KC.out.mono ?_
      rintro e w2 ⟨v, ys, rfl, H2⟩
      have hB2 : Below w1.heap.size w1 w2 := HB.out.trans (H2.out.2.2.mono HB.out.size)
      obtain ⟨ao, rfl, K3⟩ := KM.out w2 v ys (H2.out.1.mono (by simp)) H2.out.2.1 hB2
      have HK3 : Hid (Calls Tryz.prog 161 #[.slice ao (n + m) ys.length] w2 fun e w' => NPost R q w1 e w') := K3
      clear K1 K2 KC KM H2 hB2 HB K3
      go_wp2_with fail
      refine HK3.out.mono ?_
      rintro e w3 ⟨v, zs, rfl, H3⟩
      go_wp2
      go_ret2
      exact ⟨v, zs, rfl, H3⟩
    · have hj : njoin ss ts = ([], nck ts) := by unfold njoin; rw [if_pos hk, if_neg hk2]
      rw [hj]
      generalize nck ts = q at *
      have hq : (q != 0) = true := bne_iff_ne.2 hk2
      clear h h' hk hj hk2
      go_enter Tryz.func162, Tryz.ntmps162
      go_wp2_with fail
      refine K1.out.mono ?_
      rintro e w1 ⟨rfl, rfl⟩
      go_wp2_with fail
      refine K2.out.mono ?_
      rintro e w1 ⟨rfl, rfl⟩
      go_wp2
      go_ret2
      exact npost_none rfl (Below.refl _ _)
  · have hj : njoin ss ts = ([], nck ss) := by unfold njoin; rw [if_neg hk]
    rw [hj]
    generalize nck ss = q at *
    have hq : (q != 0) = true := bne_iff_ne.2 hk
    clear h h' hk hj K2
    go_enter Tryz.func162, Tryz.ntmps162
    go_wp2_with fail
    refine K1.out.mono ?_
    rintro e w1 ⟨rfl, rfl⟩
    go_wp2
    go_ret2
    exact npost_none rfl (Below.refl _ _)
end Go.Proofs.YtfkfjodfjgjbkaaGreatDoor
/- The program's names: the labels of a text. -/
namespace Go.Proofs.YtfkfjodfjgjbkaaGreatDoor
open Go.ChangeShapes Go.WideShapes Go.ChangeAt Go.RowKit
set_option linter.unusedVariables false
set_option linter.unusedSimpArgs false


theorem go_dot (l : List Int) (hb : ∀ z ∈ l, 0 ≤ z ∧ z ≤ 255) : ∀ (n p : Nat) (out o : List Int) (q : Nat), l.length - p ≤ n → p ≤ l.length → go l p out = some (o, q) → q < l.length → l.getD q 0 = 46 := by
  intro n
  induction n with
  | zero =>
    intro p out o q hn hp h hq
    have hpe : ¬ (p < l.length ∧ l.getD p 0 ≠ 46) := by omega
    rw [go_stop l p out hpe] at h
    cases h
    omega
  | succ n ih =>
    intro p out o q hn hp h hq
    by_cases hc : p < l.length ∧ l.getD p 0 ≠ 46
    · have hbd := fr_bd (l.drop p) (fun z hz => hb z (List.mem_of_mem_drop hz)) (by simp; omega)
      by_cases h0 : (fr (l.drop p)).2 ≤ 0
      · rw [go_bad l p out hc h0] at h; cases h
      · rw [go_step l p out hc h0] at h
        have hl : ((l.drop p).length : Int) = (l.length : Int) - (p : Int) := by simp; omega
        exact ih _ _ o q (by omega) (by omega) h hq
    · rw [go_stop l p out hc] at h
      cases h
      by_cases h46 : l.getD p 0 = 46
      · exact h46
      · exact absurd ⟨hq, h46⟩ hc
theorem pres_dot (l : List Int) (hb : ∀ z ∈ l, 0 ≤ z ∧ z ≤ 255) (p : Nat) (h : (pres l).2.2 = 0) (hp : (pres l).2.1 = (p : Int)) (hl : p < l.length) : l.getD p 0 = 46 := by
  unfold pres at h hp
  cases hg : go l 0 [] with
  | none => rw [hg] at h; cases h
  | some r =>
    obtain ⟨o, q⟩ := r
    rw [hg] at h hp
    dsimp only at h hp
    by_cases hc : 1 ≤ o.length ∧ o.length ≤ 63
    · rw [if_pos hc] at hp
      have e : q = p := by have : (q : Int) = (p : Int) := by simpa using hp
                           omega
      subst e
      exact go_dot l hb l.length 0 [] o q (by omega) (by omega) hg hl
    · rw [if_neg hc] at h
      exact absurd h (by decide)
set_option maxRecDepth 100000 in
theorem hasp_no (t : ByteArray) (w : World) (h : t.size = 0) : Calls Tryz.prog 203 #[.string t, .string ⟨#[46]⟩] w fun e w' => e = .returned (.bool false) ∧ w' = w := by
  go_enter Tryz.func203, Tryz.ntmps203
  go_wp2
  go_ret
  exact ⟨rfl, rfl⟩
set_option maxRecDepth 100000 in
theorem hasp_yes (t : ByteArray) (w : World) (h : 1 ≤ t.size) (hm : t.size ≤ 9223372036854775807) (h46 : t.extract 0 1 = ⟨#[46]⟩) : Calls Tryz.prog 203 #[.string t, .string ⟨#[46]⟩] w fun e w' => e = .returned (.bool true) ∧ w' = w := by
  have h1 : (1 : Int) ≤ (t.size : Int) := by omega
  go_enter Tryz.func203, Tryz.ntmps203
  go_wp2
  go_ret
  exact ⟨rfl, rfl⟩
set_option maxRecDepth 100000 in
theorem cut1_no (t : ByteArray) (w : World) (h : t.size = 0) : Calls Tryz.prog 198 #[.string t, .string ⟨#[46]⟩] w fun e w' => e = .returned (.tuple #[.string t, .bool false]) ∧ w' = w := by
  have K : Hid (∀ W, Calls Tryz.prog 203 #[.string t, .string ⟨#[46]⟩] W fun e w' => e = .returned (.bool false) ∧ w' = W) := fun W => hasp_no t W h
  clear h
  go_enter Tryz.func198, Tryz.ntmps198
  go_wp2_with fail
  refine (K.out _).mono ?_
  rintro e w1 ⟨rfl, rfl⟩
  go_wp2
  go_ret2
  exact ⟨rfl, rfl⟩
set_option maxRecDepth 100000 in
theorem cut_no (t : ByteArray) (w : World) (h : t.size = 0) : Calls Tryz.prog 186 #[.string t, .string ⟨#[46]⟩] w fun e w' => e = .returned (.tuple #[.string t, .bool false]) ∧ w' = w := by
  have K : Hid (∀ W, Calls Tryz.prog 198 #[.string t, .string ⟨#[46]⟩] W fun e w' => e = .returned (.tuple #[.string t, .bool false]) ∧ w' = W) := fun W => cut1_no t W h
  clear h
  go_enter Tryz.func186, Tryz.ntmps186
  go_wp2_with fail
  refine (K.out _).mono ?_
  rintro e w1 ⟨rfl, rfl⟩
  go_wp2
  go_ret2
  exact ⟨rfl, rfl⟩
set_option maxRecDepth 100000 in
theorem cut1_yes (t : ByteArray) (w : World) (h : 1 ≤ t.size) (hm : t.size ≤ 9223372036854775807) (h46 : t.extract 0 1 = ⟨#[46]⟩) : Calls Tryz.prog 198 #[.string t, .string ⟨#[46]⟩] w fun e w' => e = .returned (.tuple #[.string (t.extract 1 t.size), .bool true]) ∧ w' = w := by
  have K : Hid (∀ W, Calls Tryz.prog 203 #[.string t, .string ⟨#[46]⟩] W fun e w' => e = .returned (.bool true) ∧ w' = W) := fun W => hasp_yes t W h hm h46
  have h1 : (1 : Int) ≤ (t.size : Int) := by omega
  clear h46
  go_enter Tryz.func198, Tryz.ntmps198
  go_wp2_with fail
  refine (K.out _).mono ?_
  rintro e w1 ⟨rfl, rfl⟩
  go_wp2
  go_ret2
  exact ⟨rfl, rfl⟩
set_option maxRecDepth 100000 in
theorem cut_yes (t : ByteArray) (w : World) (h : 1 ≤ t.size) (hm : t.size ≤ 9223372036854775807) (h46 : t.extract 0 1 = ⟨#[46]⟩) : Calls Tryz.prog 186 #[.string t, .string ⟨#[46]⟩] w fun e w' => e = .returned (.tuple #[.string (t.extract 1 t.size), .bool true]) ∧ w' = w := by
  have K : Hid (∀ W, Calls Tryz.prog 198 #[.string t, .string ⟨#[46]⟩] W fun e w' => e = .returned (.tuple #[.string (t.extract 1 t.size), .bool true]) ∧ w' = W) := fun W => cut1_yes t W h hm h46
  generalize t.extract 1 t.size = q at *
  clear h46
  go_enter Tryz.func186, Tryz.ntmps186
  go_wp2_with fail
  refine (K.out _).mono ?_
  rintro e w1 ⟨rfl, rfl⟩
  go_wp2
  go_ret2
  exact ⟨rfl, rfl⟩
theorem nums_inj {a b : ByteArray} (h : nums a = nums b) : a = b := by rw [← txt_back a, ← txt_back b, h]
theorem nums_extract2 (s : ByteArray) (p q : Nat) : nums (s.extract p q) = ((nums s).take q).drop p := by
  simp only [nums, ByteArray.data_extract, Array.toList_extract, List.map_drop, List.map_take, List.extract]
  rw [List.drop_take]
theorem head_dot (t : ByteArray) (h : 1 ≤ t.size) (h46 : (nums t).getD 0 0 = 46) : t.extract 0 1 = ⟨#[46]⟩ := by
  apply nums_inj
  rw [nums_extract2]
  have hl := nums_len t
  cases hn : nums t with
  | nil => rw [hn] at hl; simp at hl; omega
  | cons x l =>
    rw [hn] at h46
    have e : x = 46 := by simpa using h46
    subst e
    rfl
/-- What the program's labels answers. -/
def plab (s : ByteArray) : List ByteArray × Bool × Int := if s.toList = [46] then ([], true, 0) else lgo (nums s) []
set_option maxRecDepth 100000 in
set_option maxHeartbeats 2000000 in
theorem plabels_any (s : ByteArray) (w : World) (hs : s.size ≤ 1000000000) : Calls Tryz.prog 160 #[.string s] w (LPost (plab s) w) := by
  by_cases hd : s.toList = [46]
  · have hp : plab s = ([], true, 0) := by unfold plab; rw [if_pos hd]
    rw [hp]
    clear hp
    go_enter Tryz.func160, Tryz.ntmps160
    go_wp2
    go_ret3
    exact ⟨.slice none 0 0, [], rfl, OwnT.nil _ _ _, rfl, Below.refl _ _⟩
  have hp : plab s = lgo (nums s) [] := by unfold plab; rw [if_neg hd]
  rw [hp]
  have hdf : (s.toList == [46]) = false := by simpa using hd
  obtain ⟨R, hR⟩ : ∃ R, lgo (nums s) [] = R := ⟨_, rfl⟩
  have HR0 : Hid (lgo (nums s) [] = R) := hR
  rw [hR]
  clear hR hp hd
  go_enter Tryz.func160, Tryz.ntmps160
  go_wp2_with fail
  go_loopw [0, 5] (fun x v wr => ∃ (t : ByteArray) (out : List ByteArray), x = .string t ∧ t.size ≤ 1000000000 ∧ out.length + t.size ≤ 1000000000 ∧ Hid (lgo (nums t) out = R) ∧ Hid (∃ ys, OwnT w.heap.size wr v out.length ys 1000000000000 ∧ ys.take out.length = out) ∧ Hid (Below w.heap.size w wr)) (fun x _ _ => match x with | .string t => t.size | _ => 0)
  case atStart => exact ⟨s, [], rfl, hs, by simpa using hs, HR0, ⟨[], OwnT.nil _ _ _, rfl⟩, Below.refl _ _⟩
  case round =>
    clear hdf
    obtain ⟨t, out, rfl, htz, hout, HK, HW, HB⟩ := hrel
    have KP : Hid (∀ W, Calls Tryz.prog 185 #[.string t] W fun e w' => e = .returned (.tuple #[.string (lb (pres (nums t)).1), .int .i64 (pres (nums t)).2.1, .int .i64 (pres (nums t)).2.2]) ∧ Hid (Below W.heap.size W w')) := fun W => parse_any t W (by omega)
    have HU : Hid (lgo (nums t) out = if (pres (nums t)).2.2 = 0 then (if (pres (nums t)).2.1 = (t.size : Int) then (out ++ [lb (pres (nums t)).1], false, 0) else if ((nums t).drop ((pres (nums t)).2.1.toNat + 1)).length = 0 then (out ++ [lb (pres (nums t)).1], true, 0) else lgo ((nums t).drop ((pres (nums t)).2.1.toNat + 1)) (out ++ [lb (pres (nums t)).1])) else ([], false, (pres (nums t)).2.2)) := by
      show _ = _
      rw [lgo, nums_len]
      split <;> rfl
    by_cases h0 : (pres (nums t)).2.2 = 0
    · obtain ⟨p, hp, hpl, hl1, hl2⟩ := pres_le (nums t) (nums_all t) h0
      rw [nums_len] at hpl
      have hlz : (lb (pres (nums t)).1).size ≤ 1000000000000 := by rw [lb_size]; omega
      have hdot : p < t.size → (nums t).getD p 0 = 46 := fun h => pres_dot (nums t) (nums_all t) p h0 hp (by rw [nums_len]; exact h)
      rw [h0, if_pos rfl, hp, Int.toNat_natCast] at HU
      rw [h0, hp] at KP
      generalize lb (pres (nums t)).1 = f at *
      clear h0 hp hl1 hl2
      have hpI : (p : Int) ≤ (t.size : Int) := by omega
      have hz1 : (t.extract p t.size).size = t.size - p := by simp
      have HN1 : Hid (nums (t.extract p t.size) = (nums t).drop p) := nums_extract t p
      by_cases hpt : p = t.size
      · have e : R = (out ++ [f], false, 0) := by rw [← HK.out, HU.out, if_pos (by omega)]
        subst e
        have KC : Hid (∀ W, Calls Tryz.prog 186 #[.string (t.extract p t.size), .string ⟨#[46]⟩] W fun e w' => e = .returned (.tuple #[.string (t.extract p t.size), .bool false]) ∧ w' = W) := fun W => cut_no _ W (by rw [hz1]; omega)
        have hze : ((t.extract p t.size).toList == []) = true := by
          have : (t.extract p t.size).toList = [] := by rw [ba_toList]; exact List.eq_nil_of_length_eq_zero (by have : (t.extract p t.size).data.toList.length = (t.extract p t.size).size := rfl; omega)
          rw [this]; rfl
        clear HU HK HR0 hdot hz1 HN1 hpt
        go_wp2_with fail
        refine (KP.out _).mono ?_
        rintro e w1 ⟨rfl, H1⟩
        obtain ⟨ys, hO, hT⟩ := HW.out
        have hnb : Below wr.heap.size wr (w1.alloc (.cells #[.string f] 9)) := H1.out.alloc H1.out.size _
        have HO2 : Hid (OwnT w.heap.size (w1.alloc (.cells #[.string f] 9)) u5 out.length ys 1000000000000 ∧ ys.take out.length = out) := ⟨hO.below hnb, hT⟩
        have HNB : Hid (Below wr.heap.size wr (w1.alloc (.cells #[.string f] 9))) := hnb
        clear hO hT hnb KP
        go_wp2_with (at_builtin; refine wpList_append_T tyN _ rfl _ _ 45 9 Tryz.underlying45 rfl w.heap.size _ out.length ys 1000000000000 rfl HO2.out.1 (some ⟨w1.heap.size, 0, none⟩) 1 1 [f] rfl (one_rdT w1 f) rfl (by intro s hs; simp at hs; subst hs; exact hlz) (by omega) (Nat.le_trans HB.out.size HNB.out.size) ?_; intro v' w' ys' hO' hT' hG'; have HB2 : Hid (Below w.heap.size w w') := ((HB.out.trans (HNB.out.mono HB.out.size)).grown hG' (Nat.le_trans HB.out.size HNB.out.size) HO2.out.1.1.lt); clear hG')
        refine (KC.out _).mono ?_
        rintro e w3 ⟨rfl, rfl⟩
        clear KC
        go_wp2
        go_ret3
        refine ⟨v', ys', rfl, ?_, ?_, HB2.out⟩
        · rw [List.length_append]; exact hO'.out
        · rw [List.length_append]; exact hT'.out.trans (by rw [HO2.out.2])
      · have hp1 : p + 1 ≤ t.size := by omega
        have h46 : (t.extract p t.size).extract 0 1 = ⟨#[46]⟩ := by
          refine head_dot _ (by rw [hz1]; omega) ?_
          rw [HN1.out, List.getD_eq_getElem?_getD, List.getElem?_drop, Nat.add_zero, ← List.getD_eq_getElem?_getD]
          exact hdot (by omega)
        have KC : Hid (∀ W, Calls Tryz.prog 186 #[.string (t.extract p t.size), .string ⟨#[46]⟩] W fun e w' => e = .returned (.tuple #[.string ((t.extract p t.size).extract 1 (t.extract p t.size).size), .bool true]) ∧ w' = W) := fun W => cut_yes _ W (by rw [hz1]; omega) (by rw [hz1]; omega) h46
        have HN2 : Hid (nums ((t.extract p t.size).extract 1 (t.extract p t.size).size) = (nums t).drop (p + 1)) := by
          show _ = _
          rw [nums_extract, HN1.out, List.drop_drop]
        have hz2 : ((t.extract p t.size).extract 1 (t.extract p t.size).size).size = t.size - (p + 1) := by
          have := congrArg List.length HN2.out
          rw [nums_len, List.length_drop, nums_len] at this
          exact this
        generalize (t.extract p t.size).extract 1 (t.extract p t.size).size = L at *
        rw [if_neg (by omega), List.length_drop, nums_len] at HU
        clear h46 hdot hz1 HN1
        by_cases hp2 : p + 1 = t.size
        · have e : R = (out ++ [f], true, 0) := by rw [← HK.out, HU.out, if_pos (by omega)]
          subst e
          have hze : (L.toList == []) = true := by
            have : L.toList = [] := by rw [ba_toList]; exact List.eq_nil_of_length_eq_zero (by have : L.data.toList.length = L.size := rfl; omega)
            rw [this]; rfl
          clear HU HK HR0 HN2 hz2 hp2
          go_wp2_with fail
          refine (KP.out _).mono ?_
          rintro e w1 ⟨rfl, H1⟩
          obtain ⟨ys, hO, hT⟩ := HW.out
          have hnb : Below wr.heap.size wr (w1.alloc (.cells #[.string f] 9)) := H1.out.alloc H1.out.size _
          have HO2 : Hid (OwnT w.heap.size (w1.alloc (.cells #[.string f] 9)) u5 out.length ys 1000000000000 ∧ ys.take out.length = out) := ⟨hO.below hnb, hT⟩
          have HNB : Hid (Below wr.heap.size wr (w1.alloc (.cells #[.string f] 9))) := hnb
          clear hO hT hnb KP
          go_wp2_with (at_builtin; refine wpList_append_T tyN _ rfl _ _ 45 9 Tryz.underlying45 rfl w.heap.size _ out.length ys 1000000000000 rfl HO2.out.1 (some ⟨w1.heap.size, 0, none⟩) 1 1 [f] rfl (one_rdT w1 f) rfl (by intro s hs; simp at hs; subst hs; exact hlz) (by omega) (Nat.le_trans HB.out.size HNB.out.size) ?_; intro v' w' ys' hO' hT' hG'; have HB2 : Hid (Below w.heap.size w w') := ((HB.out.trans (HNB.out.mono HB.out.size)).grown hG' (Nat.le_trans HB.out.size HNB.out.size) HO2.out.1.1.lt); clear hG')
          refine (KC.out _).mono ?_
          rintro e w3 ⟨rfl, rfl⟩
          clear KC
          go_wp2
          go_ret3
          refine ⟨v', ys', rfl, ?_, ?_, HB2.out⟩
          · rw [List.length_append]; exact hO'.out
          · rw [List.length_append]; exact hT'.out.trans (by rw [HO2.out.2])
        · have HK2 : Hid (lgo (nums L) (out ++ [f]) = R) := by
            show _ = _
            rw [HN2.out, ← HK.out, HU.out, if_neg (by omega)]
          have hze : (L.toList == []) = false := by
            cases hL : L.toList with
            | nil =>
              have : L.size = 0 := by
                have h := congrArg List.length hL
                rw [ba_toList] at h
                exact h
              omega
            | cons x l => rfl
          clear HU HK HR0 HN2
          go_wp2_with fail
          refine (KP.out _).mono ?_
          rintro e w1 ⟨rfl, H1⟩
          obtain ⟨ys, hO, hT⟩ := HW.out
          have hnb : Below wr.heap.size wr (w1.alloc (.cells #[.string f] 9)) := H1.out.alloc H1.out.size _
          have HO2 : Hid (OwnT w.heap.size (w1.alloc (.cells #[.string f] 9)) u5 out.length ys 1000000000000 ∧ ys.take out.length = out) := ⟨hO.below hnb, hT⟩
          have HNB : Hid (Below wr.heap.size wr (w1.alloc (.cells #[.string f] 9))) := hnb
          clear hO hT hnb KP
          go_wp2_with (at_builtin; refine wpList_append_T tyN _ rfl _ _ 45 9 Tryz.underlying45 rfl w.heap.size _ out.length ys 1000000000000 rfl HO2.out.1 (some ⟨w1.heap.size, 0, none⟩) 1 1 [f] rfl (one_rdT w1 f) rfl (by intro s hs; simp at hs; subst hs; exact hlz) (by omega) (Nat.le_trans HB.out.size HNB.out.size) ?_; intro v' w' ys' hO' hT' hG'; have HB2 : Hid (Below w.heap.size w w') := ((HB.out.trans (HNB.out.mono HB.out.size)).grown hG' (Nat.le_trans HB.out.size HNB.out.size) HO2.out.1.1.lt); clear hG')
          refine (KC.out _).mono ?_
          rintro e w3 ⟨rfl, rfl⟩
          clear KC
          go_wp2
          refine ⟨⟨L, out ++ [f], rfl, by omega, by rw [List.length_append, hz2]; show out.length + 1 + _ ≤ _; omega, HK2, ⟨ys', ?_, ?_⟩, HB2⟩, by simp only [hz2]; omega⟩
          · rw [List.length_append]; exact hO'.out
          · rw [List.length_append]; exact hT'.out.trans (by rw [HO2.out.2])
    · have e : R = ([], false, (pres (nums t)).2.2) := by rw [← HK.out, HU.out, if_neg h0]
      subst e
      generalize (pres (nums t)).2.2 = q at *
      have hq : (q != 0) = true := bne_iff_ne.2 h0
      clear HU HK HR0 h0
      go_wp2_with fail
      refine (KP.out _).mono ?_
      rintro e w1 ⟨rfl, H1⟩
      go_wp2
      go_ret3
      exact ⟨.slice none 0 0, [], rfl, OwnT.nil _ _ _, rfl, HB.out.trans (H1.out.mono HB.out.size)⟩
end Go.Proofs.YtfkfjodfjgjbkaaGreatDoor
/- The program's names: their bytes, in room that was made ahead. -/
namespace Go.Proofs.YtfkfjodfjgjbkaaGreatDoor
open Go.ChangeShapes Go.WideShapes Go.ChangeAt Go.RowKit
set_option linter.unusedVariables false
set_option linter.unusedSimpArgs false




theorem src_bytes {w : World} {ao : Option Addr} {m c : Nat} {news : List Int} (hr : Rd w ao news) (hl : news.length = m) : Src Tryz.prog 1 27 (.slice ao m c) m (news.map (Value.int .u8)) w := by
  cases ao with
  | some x => exact Src.ofSlice w Tryz.underlying27 x m c _ (by simp [hl]) (rd_cells hr) (by intro u hu; simp at hu; obtain ⟨z, _, rfl⟩ := hu; rfl)
  | none =>
    have hn : news = [] := by
      rcases hr with ⟨rfl, _⟩ | ⟨b, o, h, _⟩
      · rfl
      · cases h
    subst hn
    subst hl
    exact Src.ofNil w Tryz.underlying27 c
theorem rd_all {w : World} {ao : Option Addr} {news : List Int} (hr : Rd w ao news) : ∀ z ∈ news, 0 ≤ z ∧ z ≤ 255 := by
  intro z hz
  obtain ⟨i, hi, rfl⟩ := List.getElem_of_mem hz
  have := hr.bd i
  rw [List.getD_eq_getElem?_getD, List.getElem?_eq_getElem hi] at this
  exact this
theorem wpList_append_fitB (w : World) {ops : Array Oper} {rest : List Oper} {o : Oper} {a : Act} {Q : Exit → Act → World → Prop} (hgd : o.guard = none) (s x : Operand)
    (ho : o.op = .call { callee := .builtin .append, args := #[s, x], argTypes := #[27, 27] }) (B : Nat) (v : Value) (n : Nat) (zs : List Int) (hs : a.eval s = v) (hown : Own B w v n zs)
    (ao : Option Addr) (m c : Nat) (news : List Int) (hx : a.eval x = .slice ao m c) (hr : Rd w ao news) (hl : news.length = m) (hb : n + m ≤ 140737488355328) (hB : B ≤ w.heap.size)
    (h : ∀ v' w' zs', Hid (Own B w' v' (n + m) zs') → Hid (zs'.take (n + m) = zs.take n ++ news) → w.grownBy w' v.ownBlock → Hid (n + m ≤ zs.length → zs'.length = zs.length) → wpList Tryz.prog ops Q rest (a.put o.dst v') w') : wpList Tryz.prog ops Q (o :: rest) a w := by
  refine wpList_append_row tyB w hgd s x 27 ho B v n (zs.map (Value.int .u8)) hs hown.toV (.slice ao m c) m (news.map (Value.int .u8)) hx (src_bytes hr hl) (by omega) (by simp only [maxLen]; omega) hB ?_
  intro v' w' xs' h1 h2 h3 h4
  obtain ⟨ys, rfl, hys⟩ := bytes_of xs' (h4.out.1 QB ⟨0, rfl, by omega, by omega⟩ (qb_map hown.all) (qb_map (rd_all hr)))
  refine h v' w' ys (h1.out.toOwn hys) ?_ h3 ?_
  · have h2' := h2.out
    rw [← List.map_take, ← List.map_take, ← List.map_append] at h2'
    exact int_inj h2'
  · have := h4.out.2
    rw [List.length_map, List.length_map] at this
    exact this
theorem wpList_append_fitS (w : World) {ops : Array Oper} {rest : List Oper} {o : Oper} {a : Act} {Q : Exit → Act → World → Prop} (hgd : o.guard = none) (s x : Operand)
    (ho : o.op = .call { callee := .builtin .append, args := #[s, x], argTypes := #[27, 9] }) (B : Nat) (v : Value) (n : Nat) (zs : List Int) (hs : a.eval s = v) (hown : Own B w v n zs)
    (t : ByteArray) (hx : a.eval x = .string t) (hb : n + t.size ≤ 140737488355328) (hB : B ≤ w.heap.size)
    (h : ∀ v' w' zs', Hid (Own B w' v' (n + t.size) zs') → Hid (zs'.take (n + t.size) = zs.take n ++ nums t) → w.grownBy w' v.ownBlock → Hid (n + t.size ≤ zs.length → zs'.length = zs.length) → wpList Tryz.prog ops Q rest (a.put o.dst v') w') : wpList Tryz.prog ops Q (o :: rest) a w := by
  refine wpList_append_row tyB w hgd s x 9 ho B v n (zs.map (Value.int .u8)) hs hown.toV (.string t) t.size (byteCells t) hx (Src.ofString w Tryz.underlying9 t) (by omega) (by simp only [maxLen]; omega) hB ?_
  intro v' w' xs' h1 h2 h3 h4
  obtain ⟨ys, rfl, hys⟩ := bytes_of xs' (h4.out.1 QB ⟨0, rfl, by omega, by omega⟩ (qb_map hown.all) (by rw [cells_nums]; exact qb_map (nums_all t)))
  refine h v' w' ys (h1.out.toOwn hys) ?_ h3 ?_
  · have h2' := h2.out
    rw [cells_nums, ← List.map_take, ← List.map_take, ← List.map_append] at h2'
    exact int_inj h2'
  · have := h4.out.2
    rw [List.length_map, List.length_map] at this
    exact this
set_option maxRecDepth 100000 in
set_option maxHeartbeats 2000000 in
theorem pbytes_room (a : Option Addr) (n c : Nat) (ss : List ByteArray) (w : World) (h : Nm w a n ss) :
    Calls Tryz.prog 122 #[.slice a n c] w fun e w' => ∃ v ys, e = .returned (.tuple #[v, .int .i64 (nbytes ss).2]) ∧ Hid (Own w.heap.size w' v (nbytes ss).1.length ys ∧ ys.take (nbytes ss).1.length = (nbytes ss).1 ∧ Below w.heap.size w w' ∧ ys.length ≤ 140737488355328) := by
  have KC : Hid (Calls Tryz.prog 25 #[.slice a n c] w fun e w' => e = .returned (.int .i64 (nck ss)) ∧ w' = w) := pm_check c h
  have HN : Hid (Nm w a n ss) := h
  have hn := h.n63
  have HL : Hid (ss.length = n) := h.len
  by_cases hk : nck ss = 0
  · rw [hk] at KC
    have hsm := nck_small hk
    have hp : nbytes ss = (nby ss ++ [0], 0) := by unfold nbytes; rw [if_pos hk]
    rw [hp]
    obtain ⟨T, hT0⟩ : ∃ T, nsz ss = T := ⟨_, rfl⟩
    have hT255 : T ≤ 255 := by rw [← hT0]; exact hsm.1
    have HSZ : Hid (∀ k, (nby (ss.take k)).length + 1 ≤ T) := fun k => by have := nby_len (ss.take k); have := nsz_le ss k; omega
    have HWZ : Hid ((nby ss).length + 1 = T) := by show _ = _; rw [nby_len, hT0]
    have KS : Hid (Calls Tryz.prog 59 #[.slice a n c] w fun e w' => e = .returned (.int .i64 T) ∧ w' = w) := by rw [← hT0]; exact psize_eq a n c ss w h.rd h.len (by have := h.sz; omega)
    have HLB : Hid (∀ s ∈ ss, s.size ≤ 63) := fun s hs => by
      have := hsm.2 s hs
      unfold chk at this
      split at this
      · omega
      · cases this
    clear h hk hp hsm hT0
    go_enter Tryz.func122, Tryz.ntmps122
    go_wp2_with fail
    refine KC.out.mono ?_
    rintro e w1 ⟨rfl, rfl⟩
    go_wp2_with fail
    refine KS.out.mono ?_
    rintro e w1 ⟨rfl, rfl⟩
    go_wp2_with (at_make; refine wpList_make_blk _ rfl _ _ rfl 0 T _ _ rfl rfl rfl rfl (by omega) (by omega) ?_)
    have HW0 : Hid (∃ ys, Own w1.heap.size (w1.alloc (.cells (Array.replicate T (Value.int .u8 0)) 5)) (.slice (some ⟨w1.heap.size, 0, none⟩) 0 T) 0 ys ∧ ys.take 0 = nby (ss.take 0) ∧ ys.length = T) := by
      refine ⟨List.replicate T 0, .inr ⟨w1.heap.size, by simp, Nat.le_refl _, ⟨(heap_alloc_new _ _).trans (by simp), ?_⟩, by simp, by unfold maxLen; simp; omega⟩, by simp [nby], by simp⟩
      intro z hz
      rw [List.eq_of_mem_replicate hz]
      omega
    have HB0 : Hid (Below w1.heap.size w1 (w1.alloc (.cells (Array.replicate T (Value.int .u8 0)) 5))) := (Below.refl _ _).alloc (Nat.le_refl _) _
    generalize w1.alloc (.cells (Array.replicate T (Value.int .u8 0)) 5) = wa at *
    go_loopw [5, 18] (fun v x wr => ∃ (k m : Nat), k ≤ n ∧ m + 1 ≤ T ∧ x = .int .i64 k ∧ Hid ((nby (ss.take k)).length = m) ∧ Hid (∃ ys, Own w1.heap.size wr v m ys ∧ ys.take m = nby (ss.take k) ∧ ys.length = T) ∧ Hid (Below w1.heap.size w1 wr)) (fun _ x _ => n - (intOf x).toNat)
    case atStart => exact ⟨0, 0, Nat.zero_le _, by have := HWZ.out; omega, rfl, rfl, HW0.out, HB0⟩
    case round =>
      obtain ⟨k, m, hkn, hm, rfl, HM, HW, HB⟩ := hrel
      clear HW0 HB0
      by_cases hlt : k < n
      · have hlt' : (k : Int) < (n : Int) := by omega
        have hks : k < ss.length := by rw [HL.out]; exact hlt
        obtain ⟨b, o, rfl, hb, hc⟩ := (HN.out.below HB.out).rd.at k hks
        have HCE : Hid (∀ W, Below w1.heap.size w1 W → W.cell? ⟨b, o + k, none⟩ = some (.string ss[k])) := by
          intro W hW
          obtain ⟨b', o', e, _, h2⟩ := (HN.out.below hW).rd.at k hks
          cases e
          exact h2
        have hsz := HLB.out _ (List.getElem_mem hks)
        have HT : Hid (nby (ss.take (k + 1)) = nby (ss.take k) ++ [(ss[k].size : Int)] ++ nums ss[k] ∧ (nby (ss.take (k + 1))).length = m + 1 + ss[k].size) := by
          have e : nby (ss.take (k + 1)) = nby (ss.take k) ++ [(ss[k].size : Int)] ++ nums ss[k] := by rw [take_snocT ss k hks, nby_snoc]
          exact ⟨e, by rw [e, List.length_append, List.length_append, HM.out, nums_len]; rfl⟩
        have hz2 := HSZ.out (k + 1)
        rw [HT.out.2] at hz2
        generalize ss[k] = s at *
        obtain ⟨ys, hO, hTk, hyl⟩ := HW.out
        have hnb : Below wr.heap.size wr (wr.alloc (.cells #[.int .u8 (s.size : Int)] 5)) := (Below.refl _ _).alloc (Nat.le_refl _) _
        have HO2 : Hid (Own w1.heap.size (wr.alloc (.cells #[.int .u8 (s.size : Int)] 5)) u5 m ys ∧ ys.take m = nby (ss.take k) ∧ ys.length = T) := ⟨hO.below hnb, hTk, hyl⟩
        have HR2 : Hid (Rd (wr.alloc (.cells #[.int .u8 (s.size : Int)] 5)) (some ⟨wr.heap.size, 0, none⟩) [(s.size : Int)]) := new_rd wr _ (by omega)
        have HNB : Hid (Below wr.heap.size wr (wr.alloc (.cells #[.int .u8 (s.size : Int)] 5))) := hnb
        clear hO hTk hnb hyl
        have hmod : (s.size : Int) % 256 = (s.size : Int) := by omega
        go_wp2_with (at_builtin; first
          | (refine wpList_append_fitB _ rfl _ _ rfl w1.heap.size _ m ys rfl HO2.out.1 (some ⟨wr.heap.size, 0, none⟩) 1 1 [(s.size : Int)] rfl HR2.out rfl (by omega) (Nat.le_trans HB.out.size HNB.out.size) ?_; intro v' w' ys' hO' hT' hG' hF'; have HB2 : Hid (Below w1.heap.size w1 w') := ((HB.out.trans (HNB.out.mono HB.out.size)).grown hG' (Nat.le_trans HB.out.size HNB.out.size) HO2.out.1.lt); have hc2 : w'.cell? ⟨b, o + k, none⟩ = some (.string s) := HCE.out _ HB2.out; clear HR2 hG')
          | (refine wpList_append_fitS _ rfl _ _ rfl w1.heap.size _ (m + 1) ys' rfl hO'.out s rfl (by omega) HB2.out.size ?_; intro v2 w2 ys2 hO2 hT2 hG2 hF2))
        refine ⟨⟨k + 1, m + 1 + s.size, by omega, hz2, by go_num, HT.out.2, ⟨ys2, hO2.out, ?_, ?_⟩, ?_⟩, by simp [intOf]; omega⟩
        · rw [hT2.out, hT'.out, HO2.out.2.1, HT.out.1]
        · rw [hF2.out (by rw [hF'.out (by rw [HO2.out.2.2]; omega), HO2.out.2.2]; omega), hF'.out (by rw [HO2.out.2.2]; omega), HO2.out.2.2]
        · exact HB2.out.grown hG2 HB2.out.size hO'.out.lt
      · have hge : (n : Int) ≤ (k : Int) := by omega
        have ek : ss.take k = ss := List.take_of_length_le (by rw [HL.out]; omega)
        obtain ⟨ys, hO, hTk, hyl⟩ := HW.out
        rw [ek] at hTk
        have HM2 : Hid ((nby ss).length = m) := by have := HM.out; rw [ek] at this; exact this
        have hnb : Below wr.heap.size wr (wr.alloc (.cells #[.int .u8 0] 5)) := (Below.refl _ _).alloc (Nat.le_refl _) _
        have HO2 : Hid (Own w1.heap.size (wr.alloc (.cells #[.int .u8 0] 5)) u5 m ys ∧ ys.take m = nby ss ∧ ys.length = T) := ⟨hO.below hnb, hTk, hyl⟩
        have HR2 : Hid (Rd (wr.alloc (.cells #[.int .u8 0] 5)) (some ⟨wr.heap.size, 0, none⟩) [0]) := new_rd wr _ (by omega)
        have HNB : Hid (Below wr.heap.size wr (wr.alloc (.cells #[.int .u8 0] 5))) := hnb
        clear hO hTk hnb ek hyl
        go_wp2_with (at_builtin; refine wpList_append_fitB _ rfl _ _ rfl w1.heap.size _ m ys rfl HO2.out.1 (some ⟨wr.heap.size, 0, none⟩) 1 1 [0] rfl HR2.out rfl (by omega) (Nat.le_trans HB.out.size HNB.out.size) ?_; intro v' w' ys' hO' hT' hG' hF'; have HB2 : Hid (Below w1.heap.size w1 w') := ((HB.out.trans (HNB.out.mono HB.out.size)).grown hG' (Nat.le_trans HB.out.size HNB.out.size) HO2.out.1.lt); clear hG')
        go_ret2
        refine ⟨v', ys', rfl, ?_, ?_, HB2.out, ?_⟩
        · rw [List.length_append, HM2.out]; exact hO'.out
        · rw [List.length_append, HM2.out]; exact hT'.out.trans (by rw [HO2.out.2.1])
        · rw [hF'.out (by rw [HO2.out.2.2]; omega), HO2.out.2.2]; omega
  · have hp : nbytes ss = ([], nck ss) := by unfold nbytes; rw [if_neg hk]
    rw [hp]
    generalize nck ss = q at *
    have hq : (q != 0) = true := bne_iff_ne.2 hk
    clear h hk hp
    go_enter Tryz.func122, Tryz.ntmps122
    go_wp2_with fail
    refine KC.out.mono ?_
    rintro e w1 ⟨rfl, rfl⟩
    go_wp2
    go_ret2
    exact ⟨.slice none 0 0, [], rfl, .inl ⟨rfl, rfl, rfl⟩, rfl, Below.refl _ _, Nat.zero_le _⟩
theorem pbytes_any (a : Option Addr) (n c : Nat) (ss : List ByteArray) (w : World) (h : Nm w a n ss) : Calls Tryz.prog 122 #[.slice a n c] w (fun e w' => ∃ v ys, e = .returned (.tuple #[v, .int .i64 (nbytes ss).2]) ∧ Hid (Own w.heap.size w' v (nbytes ss).1.length ys ∧ ys.take (nbytes ss).1.length = (nbytes ss).1 ∧ Below w.heap.size w w')) :=
  (pbytes_room a n c ss w h).mono fun e w' ⟨v, ys, h1, h2⟩ => ⟨v, ys, h1, h2.out.1, h2.out.2.1, h2.out.2.2.1⟩
end Go.Proofs.YtfkfjodfjgjbkaaGreatDoor
/- Texts with escapes, as the program reads them. -/
namespace Go.Proofs.YtfkfjodfjgjbkaaGreatDoor
open Go.ChangeShapes Go.WideShapes Go.ChangeAt Go.RowKit Go.Sort
set_option linter.unusedVariables false
set_option linter.unusedSimpArgs false

/-- The byte for which a text's front stands, and how many bytes say it. -/
def xfst : List Int → Int × Nat
  | [] => (0, 0)
  | c :: l => if c ≠ 92 then (c, 1) else (match l with
    | [] => (0, 0)
    | d :: r => if xdig d = false then (d, 2) else (match r with
      | e :: f :: q => if xdig e = true ∧ xdig f = true ∧ 100 * (d - 48) + 10 * (e - 48) + (f - 48) ≤ 255 then (100 * (d - 48) + 10 * (e - 48) + (f - 48), 4) else (0, 0)
      | _ => (0, 0)))
theorem xfst_none (l : List Int) (hl : l ≠ []) (h : (xfst l).2 = 0) : xstr l = none := by
  match l, hl with
  | c :: l, _ =>
    rw [xstr.eq_def]
    simp only [xfst] at h
    by_cases hc : c = 92
    · subst hc
      simp only [ne_eq, not_true, if_false] at h
      simp only [if_true]
      match l with
      | [] => rfl
      | d :: r =>
        simp only at h ⊢
        by_cases hd : xdig d = false
        · rw [if_pos hd] at h; simp at h
        · have hd' : xdig d = true := by simpa using hd
          rw [if_neg hd] at h
          rw [if_pos hd']
          match r with
          | [] => rfl
          | [e] => rfl
          | e :: f :: q =>
            simp only at h ⊢
            rw [if_neg]
            intro hh
            simp only [Bool.and_eq_true, decide_eq_true_eq] at hh
            rw [if_pos ⟨hh.1.1, hh.1.2, hh.2⟩] at h
            simp at h
    · simp only [ne_eq, hc, not_false_eq_true, if_true] at h
      simp at h
theorem xfst_some (l : List Int) (h : (xfst l).2 ≠ 0) : xstr l = (xstr (l.drop (xfst l).2)).map (fun o => (xfst l).1 :: o) ∧ 1 ≤ (xfst l).2 ∧ (xfst l).2 ≤ l.length := by
  match l with
  | [] => simp [xfst] at h
  | c :: l =>
    simp only [xfst] at h ⊢
    by_cases hc : c = 92
    · subst hc
      simp only [ne_eq, not_true, if_false] at h ⊢
      match l with
      | [] => simp at h
      | d :: r =>
        simp only at h ⊢
        by_cases hd : xdig d = false
        · rw [if_pos hd, xstr_esc d r hd]
          simp
        · have hd' : xdig d = true := by simpa using hd
          rw [if_neg hd] at h ⊢
          match r with
          | [] => simp at h
          | [e] => simp at h
          | e :: f :: q =>
            simp only at h ⊢
            by_cases hh : xdig e = true ∧ xdig f = true ∧ 100 * (d - 48) + 10 * (e - 48) + (f - 48) ≤ 255
            · rw [if_pos hh, xstr_num d e f q hd' hh.1 hh.2.1 hh.2.2]
              simp
            · rw [if_neg hh] at h; simp at h
    · simp only [ne_eq, hc, not_false_eq_true, if_true]
      rw [xstr_plain c l hc]
      simp
theorem xfst_bd (l : List Int) (hb : ∀ z ∈ l, 0 ≤ z ∧ z ≤ 255) : 0 ≤ (xfst l).1 ∧ (xfst l).1 ≤ 255 := by
  match l with
  | [] => simp [xfst]
  | c :: l =>
    simp only [xfst]
    have h1 := hb c (by simp)
    by_cases hc : c = 92
    · subst hc
      simp only [ne_eq, not_true, if_false]
      match l with
      | [] => simp
      | d :: r =>
        simp only
        have h2 := hb d (by simp)
        by_cases hd : xdig d = false
        · rw [if_pos hd]; exact h2
        · have hd' : xdig d = true := by simpa using hd
          rw [if_neg hd]
          match r with
          | [] => simp
          | [e] => simp
          | e :: f :: q =>
            simp only
            by_cases hh : xdig e = true ∧ xdig f = true ∧ 100 * (d - 48) + 10 * (e - 48) + (f - 48) ≤ 255
            · rw [if_pos hh]
              simp [xdig] at hd' hh
              simp only
              omega
            · rw [if_neg hh]; simp
    · simp only [ne_eq, hc, not_false_eq_true, if_true]
      exact h1

theorem ldig_any (c : Int) (w : World) : Calls Tryz.prog 93 #[.int .u8 c] w fun e w' => e = .returned (.bool (xdig c)) ∧ w' = w := by
  go_enter Tryz.func93, Tryz.ntmps93
  by_cases h1 : (48 : Int) ≤ c
  · by_cases h2 : c ≤ (57 : Int)
    · have e : xdig c = true := by simp [xdig, h1, h2]
      rw [e]
      go_wp2_with fail
      go_ret
      exact ⟨rfl, rfl⟩
    · have e : xdig c = false := by simp [xdig, h2]
      rw [e]
      go_wp2_with fail
      go_ret
      exact ⟨rfl, rfl⟩
  · have e : xdig c = false := by simp [xdig, h1]
    rw [e]
    go_wp2_with fail
    go_ret
    exact ⟨rfl, rfl⟩
theorem numb_yes (s : ByteArray) (h3 : s.size = 3) (u : Nat) (hu : u ≤ 255) (h : Lib.parseUintB 8 s.data.toList = .ok u) (w : World) :
    Calls Tryz.prog 94 #[.string s] w fun e w' => e = .returned (.tuple #[.int .u8 (u : Int), .int .i64 4]) ∧ Hid (Below w.heap.size w w') := by
  have K := Lib.hid (pu10_ok 8 (.inl rfl) s (by omega) u h w)
  clear h
  have hu' : (u : Int) ≤ 255 := by omega
  go_enter Tryz.func94, Tryz.ntmps94
  go_wp2_with fail
  refine K.out.mono ?_
  rintro e w' ⟨rfl, H⟩
  go_wp2_with fail
  go_ret2
  refine ⟨?_, H.out⟩
  first | rfl | (simp [h3]; done) | (rw [h3]; rfl)
theorem numb_no (s : ByteArray) (hs : s.size ≤ 281474976710656) (h : ∀ u, Lib.parseUintB 8 s.data.toList ≠ .ok u) (w : World) (hE : LayE w) :
    Calls Tryz.prog 94 #[.string s] w fun e w' => e = .returned (.tuple #[.int .u8 0, .int .i64 0]) ∧ Hid (Below w.heap.size w w') := by
  have K := Lib.hid (pu10_no 8 (.inl rfl) s hs h w hE)
  clear h hE
  go_enter Tryz.func94, Tryz.ntmps94
  go_wp2_with fail
  refine K.out.mono ?_
  rintro e w' ⟨x, N, rfl, _, H⟩
  go_wp2_with fail
  go_ret2
  exact ⟨rfl, H.out⟩

theorem nums_from (s : ByteArray) (p : Nat) (h : p < s.size) : (nums s).drop p = (s[p].toNat : Int) :: (nums s).drop (p + 1) := by
  rw [List.drop_eq_getElem_cons (by rw [nums_len]; exact h)]
  congr 1
  have := nums_at s p h
  rw [List.getD_eq_getElem?_getD, List.getElem?_eq_getElem (by rw [nums_len]; exact h)] at this
  simpa using this
theorem nums_end (s : ByteArray) (p : Nat) (h : s.size ≤ p) : (nums s).drop p = [] := List.drop_eq_nil_of_le (by rw [nums_len]; exact h)
theorem nums_three (s : ByteArray) (h : 3 < s.size) : (s.extract 1 4).data.toList = [s[1], s[2], s[3]] := by
  apply bi_inj
  rw [← nums_bi, nums_extract2]
  have e : nums s = (s[0].toNat : Int) :: (s[1].toNat : Int) :: (s[2].toNat : Int) :: (s[3].toNat : Int) :: (nums s).drop 4 := by
    have h0 : nums s = (nums s).drop 0 := rfl
    rw [h0, nums_from s 0 (by omega), nums_from s 1 (by omega), nums_from s 2 (by omega), nums_from s 3 (by omega)]
    rfl
  rw [e]
  rfl
def F1 (s : ByteArray) (c : Int) (n : Nat) : Prop := xfst (nums s) = (c, n)
set_option maxRecDepth 100000 in
set_option maxHeartbeats 4000000 in
theorem first_any (s : ByteArray) (h0 : 0 < s.size) (hs : s.size ≤ 281474976710656) (w : World) (hE : LayE w) :
    Calls Tryz.prog 63 #[.string s] w fun e w' => ∃ (c : Int) (n : Nat), e = .returned (.tuple #[.int .u8 c, .int .i64 (n : Int)]) ∧ Hid (F1 s c n) ∧ Hid (Below w.heap.size w w') := by
  have HE : Hid (LayE w) := hE
  clear hE
  have h0' : (0 : Int) < (s.size : Int) := by omega
  have hbd0 := nums_bd s 0
  rw [nums_at s 0 h0] at hbd0
  have e0 : nums s = (s[0].toNat : Int) :: (nums s).drop 1 := nums_from s 0 h0
  by_cases h92 : (s[0].toNat : Int) = 92
  · have h92b : ((s[0].toNat : Int) != 92) = false := by simp [h92]
    rw [h92] at e0
    by_cases h1 : 1 < s.size
    · have h1' : (1 : Int) < (s.size : Int) := by omega
      have hbd1 := nums_bd s 1
      rw [nums_at s 1 h1] at hbd1
      rw [nums_from s 1 h1] at e0
      by_cases hd : xdig (s[1].toNat : Int) = true
      · by_cases h3 : 3 < s.size
        · have h3' : (3 : Int) < (s.size : Int) := by omega
          rw [nums_from s 2 (by omega), nums_from s 3 h3] at e0
          have e3 := nums_three s h3
          have hsz : (s.extract 1 4).size = 3 := by rw [ByteArray.size_extract]; omega
          by_cases hok : ∃ u, Lib.parseUintB 8 (s.extract 1 4).data.toList = .ok u
          · obtain ⟨u, hu⟩ := hok
            have hu2 := hu
            rw [e3, three_ok] at hu2
            obtain ⟨_, d2, d3, hv, hu255⟩ := hu2
            have HF : Hid (F1 s u 4) := by
              show xfst (nums s) = _
              rw [e0]
              simp only [xfst]
              rw [if_neg (by simp), if_neg (by rw [hd]; simp), if_pos ⟨d2, d3, by omega⟩, hv]
            have K := Lib.hid (fun W => numb_yes (s.extract 1 4) hsz u hu255 hu W)
            have KD := Lib.hid (fun W => ldig_any (s[1].toNat : Int) W)
            rw [hd] at KD
            clear e0 e3 hu hv d2 d3 hd hsz HE
            go_enter Tryz.func63, Tryz.ntmps63
            go_wp2_with (go_at_call 93; refine (KD.out _).mono ?_; rintro e w' ⟨rfl, hw⟩; subst w')
            refine (K.out _).mono ?_
            rintro e w' ⟨rfl, H⟩
            go_wp2_with fail
            go_ret2
            exact ⟨_, 4, rfl, HF, H.out⟩
          · have hno : ∀ u, Lib.parseUintB 8 (s.extract 1 4).data.toList ≠ .ok u := fun u hu => hok ⟨u, hu⟩
            have HF : Hid (F1 s 0 0) := by
              show xfst (nums s) = _
              rw [e0]
              simp only [xfst]
              rw [if_neg (by simp), if_neg (by rw [hd]; simp), if_neg]
              rintro ⟨d2, d3, hv⟩
              have b2 : 48 ≤ (s[2].toNat : Int) ∧ (s[2].toNat : Int) ≤ 57 := by simpa [xdig] using d2
              have b3 : 48 ≤ (s[3].toNat : Int) ∧ (s[3].toNat : Int) ≤ 57 := by simpa [xdig] using d3
              have b1 : 48 ≤ (s[1].toNat : Int) ∧ (s[1].toNat : Int) ≤ 57 := by simpa [xdig] using hd
              refine hno (100 * ((s[1].toNat : Int) - 48) + 10 * (s[2].toNat - 48) + (s[3].toNat - 48) : Int).toNat ?_
              rw [e3, three_ok]
              exact ⟨hd, d2, d3, by omega, by omega⟩
            have K := Lib.hid (numb_no (s.extract 1 4) (by rw [hsz]; omega) hno w HE.out)
            have KD := Lib.hid (fun W => ldig_any (s[1].toNat : Int) W)
            rw [hd] at KD
            clear e0 e3 hd hsz HE hno hok
            go_enter Tryz.func63, Tryz.ntmps63
            go_wp2_with (go_at_call 93; refine (KD.out _).mono ?_; rintro e w' ⟨rfl, hw⟩; subst w')
            refine K.out.mono ?_
            rintro e w' ⟨rfl, H⟩
            go_wp2_with fail
            go_ret2
            exact ⟨_, 0, rfl, HF, H.out⟩
        · have h3' : ¬ (3 : Int) < (s.size : Int) := by omega
          have HF : Hid (F1 s 0 0) := by
            show xfst (nums s) = _
            rw [e0]
            simp only [xfst]
            rw [if_neg (by simp), if_neg (by rw [hd]; simp)]
            have hl : ((nums s).drop (1 + 1)).length ≤ 1 := by rw [List.length_drop, nums_len]; omega
            generalize (nums s).drop (1 + 1) = r at hl
            match r, hl with
            | [], _ => rfl
            | [a], _ => rfl
            | a :: b :: c, hl => simp at hl
          have KD := Lib.hid (fun W => ldig_any (s[1].toNat : Int) W)
          rw [hd] at KD
          clear e0 hd HE
          go_enter Tryz.func63, Tryz.ntmps63
          go_wp2_with (go_at_call 93; refine (KD.out _).mono ?_; rintro e w' ⟨rfl, hw⟩; subst w')
          go_ret2
          exact ⟨_, 0, rfl, HF, Below.refl _ _⟩
      · have hdf : xdig (s[1].toNat : Int) = false := by simpa using hd
        have HF : Hid (F1 s (s[1].toNat : Int) 2) := by
          show xfst (nums s) = _
          rw [e0]
          simp only [xfst]
          rw [if_neg (by simp), if_pos hdf]
        have KD := Lib.hid (fun W => ldig_any (s[1].toNat : Int) W)
        rw [hdf] at KD
        clear e0 hd HE hdf
        go_enter Tryz.func63, Tryz.ntmps63
        go_wp2_with (go_at_call 93; refine (KD.out _).mono ?_; rintro e w' ⟨rfl, hw⟩; subst w')
        go_ret2
        exact ⟨_, 2, rfl, HF, Below.refl _ _⟩
    · have h1' : ¬ (1 : Int) < (s.size : Int) := by omega
      have h3' : ¬ (3 : Int) < (s.size : Int) := by omega
      have HF : Hid (F1 s 0 0) := by
        show xfst (nums s) = _
        rw [e0, nums_end s 1 (by omega)]
        simp only [xfst]
        rw [if_neg (by simp)]
      clear e0 HE
      go_enter Tryz.func63, Tryz.ntmps63
      go_wp2_with fail
      go_ret2
      exact ⟨_, 0, rfl, HF, Below.refl _ _⟩
  · have h92b : ((s[0].toNat : Int) != 92) = true := by simp [h92]
    have HF : Hid (F1 s (s[0].toNat : Int) 1) := by
      show xfst (nums s) = _
      rw [e0]
      simp only [xfst]
      rw [if_pos h92]
    clear e0 HE h92
    go_enter Tryz.func63, Tryz.ntmps63
    go_wp2_with fail
    go_ret2
    exact ⟨_, 1, rfl, HF, Below.refl _ _⟩

def xstrR (l : List Int) : ByteArray × Int := match xstr l with | some o => (lb o, 0) | none => (⟨#[]⟩, 7)
theorem xstrR_none {l : List Int} (h : xstr l = none) : xstrR l = (⟨#[]⟩, 7) := by unfold xstrR; rw [h]
theorem xstrR_some {l o : List Int} (h : xstr l = some o) : xstrR l = (lb o, 0) := by unfold xstrR; rw [h]
def strSz : Value → Nat | .string t => t.size | _ => 0
def StB (s t : ByteArray) (out : List Int) : Prop := xstr (nums s) = (xstr (nums t)).map (fun o => out ++ o)
set_option maxRecDepth 100000 in
set_option maxHeartbeats 4000000 in
theorem string_any (s : ByteArray) (w : World) (hs : s.size ≤ 140737488355328) (hE : LayE w) :
    Calls Tryz.prog 31 #[.string s] w fun e w' => e = .returned (.tuple #[.string (xstrR (nums s)).1, .int .i64 (xstrR (nums s)).2]) ∧ Hid (Below w.heap.size w w') := by
  have HE : Hid (LayE w) := hE
  clear hE
  have H0 : Hid (Own w.heap.size (w.alloc (.cells (Array.replicate s.size (Value.int .u8 0)) 5)) (.slice (some ⟨w.heap.size, 0, none⟩) 0 s.size) 0 (List.replicate s.size 0) ∧ Below w.heap.size w (w.alloc (.cells (Array.replicate s.size (Value.int .u8 0)) 5))) := by
    have e : Array.replicate s.size (Value.int .u8 0) = ((List.replicate s.size (0 : Int)).map (Value.int .u8)).toArray := by simp
    rw [e]
    refine ⟨.inr ⟨w.heap.size, by simp, Nat.le_refl _, ⟨heap_alloc_new _ _, fun z hz => ?_⟩, Nat.zero_le _, by simp [maxLen]; omega⟩, (Below.refl _ _).alloc (Nat.le_refl _) _⟩
    rw [List.mem_replicate] at hz
    omega
  go_enter Tryz.func31, Tryz.ntmps31
  go_wp2_with (at_make; refine wpList_make_blk _ rfl _ _ rfl 0 s.size _ _ rfl rfl rfl rfl (Nat.zero_le _) (by omega) ?_)
  generalize (w.alloc (.cells (Array.replicate s.size (Value.int .u8 0)) 5)) = wa at *
  go_loopw [0, 4] (fun x v wr => ∃ (t : ByteArray) (out : List Int), x = .string t ∧ out.length + t.size ≤ s.size ∧ Hid (StB s t out) ∧ Hid (∃ ys, Own w.heap.size wr v out.length ys ∧ ys.take out.length = out) ∧ Hid (Below w.heap.size w wr)) (fun x _ _ => strSz x)
  case atStart => exact ⟨s, [], rfl, by simp, (by show _ = _; simp), ⟨_, H0.out.1, by simp⟩, H0.out.2⟩
  case round =>
    clear H0
    obtain ⟨t, out, rfl, hle, HS, HW, HB⟩ := hrel
    by_cases h0 : 0 < t.size
    · have h0' : (0 : Int) < (t.size : Int) := by omega
      go_wp2_with fail
      refine (first_any t h0 (by omega) wr (HE.out.below HB.out)).mono ?_
      rintro e w1 ⟨c, n, rfl, HF, H1⟩
      have HB1 : Hid (Below w.heap.size w w1) := HB.out.trans (H1.out.mono HB.out.size)
      by_cases hn : n = 0
      · subst hn
        have HQ : Hid (xstrR (nums s) = (⟨#[]⟩, 7)) := by
          refine xstrR_none ?_
          have h1 : xstr (nums t) = none := xfst_none _ (fun e => by have := nums_len t; rw [e] at this; simp at this; omega) (by rw [HF.out])
          have h2 := HS.out
          unfold StB at h2
          rw [h2, h1]; rfl
        go_wp2_with fail
        go_ret2
        exact ⟨by rw [HQ.out]; rfl, HB1.out⟩
      · have hn' : ¬ (n : Int) = 0 := by omega
        have hn2 : ((n : Int) == 0) = false := by rw [beq_eq_false_iff_ne]; exact hn'
        have hq := xfst_some (nums t) (by rw [HF.out]; exact hn)
        have hbd := xfst_bd (nums t) (nums_all' t)
        rw [HF.out] at hq hbd
        simp only at hq hbd
        rw [nums_len] at hq
        obtain ⟨hq1, hq2, hq3⟩ := hq
        have hq3' : (n : Int) ≤ (t.size : Int) := by omega
        have HS2 : Hid (StB s (t.extract n t.size) (out ++ [c])) := by
          have h2 := HS.out
          show _ = _
          unfold StB at h2
          rw [h2, hq1, nums_extract, Option.map_map]
          congr 1
          funext o
          simp [Function.comp]
        have HT2 : Hid ((t.extract n t.size).size = t.size - n) := by show _ = _; rw [ByteArray.size_extract]; omega
        clear hq1
        obtain ⟨ys, hO, hT⟩ := HW.out
        have hnb : Below w1.heap.size w1 (w1.alloc (.cells #[.int .u8 c] 5)) := (Below.refl _ _).alloc (Nat.le_refl _) _
        have HO2 : Hid (Own w.heap.size (w1.alloc (.cells #[.int .u8 c] 5)) u4 out.length ys ∧ ys.take out.length = out) := ⟨(hO.below H1.out).below hnb, hT⟩
        have HR2 : Hid (Rd (w1.alloc (.cells #[.int .u8 c] 5)) (some ⟨w1.heap.size, 0, none⟩) [c]) := new_rd w1 _ hbd
        have HNB : Hid (Below w1.heap.size w1 (w1.alloc (.cells #[.int .u8 c] 5))) := hnb
        clear hO hT hnb HW HB H1
        go_wp2_with (at_builtin; refine wpList_append_blk _ rfl _ _ rfl w.heap.size _ out.length ys rfl HO2.out.1 (some ⟨w1.heap.size, 0, none⟩) 1 1 [c] rfl HR2.out rfl (by simp) (by omega) (Nat.le_trans HB1.out.size HNB.out.size) ?_; intro v' w' ys' hO' hT' hG')
        have hrow := HO2.out.1.lt
        refine ⟨⟨t.extract n t.size, out ++ [c], rfl, ?_, HS2, ⟨ys', ?_, ?_⟩, ?_⟩, ?_⟩
        · rw [HT2.out, List.length_append, List.length_singleton]; omega
        · rw [List.length_append]; exact hO'.out
        · rw [List.length_append]; exact hT'.out.trans (by rw [HO2.out.2])
        · exact (HB1.out.trans (HNB.out.mono HB1.out.size)).grown hG' (Nat.le_trans HB1.out.size HNB.out.size) hrow
        · simp only [strSz]; rw [HT2.out]; omega
    · have h0' : ¬ (0 : Int) < (t.size : Int) := by omega
      have HQ : Hid (xstrR (nums s) = (lb out, 0)) := by
        refine xstrR_some ?_
        have h2 := HS.out
        unfold StB at h2
        have h3 : nums t = [] := List.length_eq_zero_iff.1 (by rw [nums_len]; omega)
        rw [h2, h3]
        simp [xstr]
      obtain ⟨ys, hO, hT⟩ := HW.out
      obtain ⟨ao, rfl, hA⟩ := hO.addr
      have hcv := conv_rd ao out.length ys.length out wr (by have := hA.rdTake out.length; rw [hT] at this; exact this) rfl
      have HL : Hid (lb out = ⟨(txt out).toArray⟩) := rfl
      clear hO hT HW hA
      generalize ys.length = yl at *
      go_wp2_with fail
      go_ret2
      exact ⟨by rw [HQ.out]; rfl, HB.out⟩
end Go.Proofs.YtfkfjodfjgjbkaaGreatDoor
/- Data by type: what they are, their bytes, and what is read of bytes. No text of the program is used here. -/
namespace Go.Proofs.YtfkfjodfjgjbkaaGreatDoor
open Go.ChangeShapes Go.WideShapes Go.ChangeAt Go.RowKit
set_option linter.unusedVariables false
set_option linter.unusedSimpArgs false




/-- Data: names, numbers, texts, bytes. -/
structure Dat where
  ns : List (List ByteArray)
  us : List Nat
  ts : List ByteArray
  raw : List Int
/-- What data of a type have: names, numbers, texts (-1: one or more), bytes (-1: any), a number's bytes. -/
structure Shp where
  nn : Nat
  nu : Nat
  nt : Int
  nr : Int
  wd : Nat
def shp (t : Nat) : Shp :=
  if t = 1 then ⟨0, 0, 0, 4, 0⟩ else if t = 28 then ⟨0, 0, 0, 16, 0⟩ else if t = 2 ∨ t = 5 ∨ t = 12 then ⟨1, 0, 0, 0, 0⟩ else if t = 6 then ⟨2, 5, 0, 0, 4⟩ else
  if t = 15 then ⟨1, 1, 0, 0, 2⟩ else if t = 33 then ⟨1, 3, 0, 0, 2⟩ else if t = 16 then ⟨0, 0, -1, 0, 0⟩ else if t = 257 then ⟨0, 1, 2, 0, 1⟩ else ⟨0, 0, 0, -1, 0⟩
def mayT (t : Nat) : Bool := decide (t ≠ 0) && (decide (t < 128) || decide (255 < t))
def most (wd : Nat) : Nat := if wd = 1 then 255 else if wd = 2 then 65535 else 4294967295
def alnum (z : Int) : Bool := (decide (97 ≤ z) && decide (z ≤ 122)) || (decide (65 ≤ z) && decide (z ≤ 90)) || (decide (48 ≤ z) && decide (z ≤ 57))
def tagB (s : ByteArray) : Bool := decide (1 ≤ s.size) && decide (s.size ≤ 15) && (nums s).all alnum
def fitsB (t : Nat) (d : Dat) : Bool :=
  decide (d.ns.length = (shp t).nn) && decide (d.us.length = (shp t).nu) && (decide ((shp t).nt < 0) || decide ((d.ts.length : Int) = (shp t).nt)) && (decide (0 ≤ (shp t).nt) || decide (d.ts.length ≠ 0)) &&
  (decide ((shp t).nr < 0) || decide ((d.raw.length : Int) = (shp t).nr)) && d.us.all (fun n => decide (n ≤ most (shp t).wd)) && (decide (t ≠ 16) || d.ts.all (fun s => decide (s.size ≤ 255))) && (decide (t ≠ 257) || tagB (d.ts.getD 0 ⟨#[]⟩))
/-- How many bytes texts have, with their lengths. -/
def tsz (t : Nat) (l : List ByteArray) : Nat := if t = 16 then (nby l).length else (match l with | [] => 0 | s :: r => s.size + 1 + (r.flatMap nums).length)
def sizesF (t : Nat) (d : Dat) : Nat := d.raw.length + d.us.length * (shp t).wd + (d.ns.map nsz).sum + tsz t d.ts
/-- The first error of names. -/
def nsErr : List (List ByteArray) → Int
  | [] => 0
  | n :: r => if nck n = 0 then nsErr r else nck n
def checkF (t : Nat) (d : Dat) : Int := if mayT t then (if fitsB t d then (if nsErr d.ns = 0 then (if 65535 < sizesF t d then 3 else 0) else nsErr d.ns) else 7) else 6
/-- A number in so many bytes. -/
def numB (n wd : Nat) : List Int := if wd = 1 then [(n : Int)] else if wd = 2 then [((n / 256 : Nat) : Int), ((n % 256 : Nat) : Int)] else [((n / 16777216 : Nat) : Int), ((n / 65536 % 256 : Nat) : Int), ((n / 256 % 256 : Nat) : Int), ((n % 256 : Nat) : Int)]
/-- A name's bytes. -/
def nmB (n : List ByteArray) : List Int := nby n ++ [0]
def tsB (t : Nat) (l : List ByteArray) : List Int := if t = 16 then nby l else (match l with | [] => [] | s :: r => ((s.size : Int) :: nums s) ++ r.flatMap nums)
def writeF (t : Nat) (d : Dat) : List Int := if t = 6 then d.ns.flatMap nmB ++ d.us.flatMap (fun n => numB n 4) else d.us.flatMap (fun n => numB n (shp t).wd) ++ d.ns.flatMap nmB ++ tsB t d.ts ++ d.raw
/-- The name at a place of bytes. -/
def gName (b : List Int) (p : Nat) : Option (List ByteArray × Nat) := if p < b.length then (match rgo b p [] with | some (o, q) => if nck o = 0 then some (o, q) else none | none => none) else none
def gNum (b : List Int) (p wd : Nat) : Nat := (val ((b.drop p).take wd)).toNat
def gTexts (b : List Int) (p : Nat) : Option (List ByteArray) :=
  if h : p < b.length then (if p + 1 + (b.getD p 0).toNat ≤ b.length then (gTexts b (p + 1 + (b.getD p 0).toNat)).map (lb ((b.drop (p + 1)).take (b.getD p 0).toNat) :: ·) else none) else some []
termination_by b.length - p
decreasing_by omega
def guessF (t : Nat) (b : List Int) : Option Dat :=
  if t = 6 then (gName b 0).bind fun x => (gName b x.2).bind fun y => if y.2 + 20 ≤ b.length then some ⟨[x.1, y.1], [gNum b y.2 4, gNum b (y.2 + 4) 4, gNum b (y.2 + 8) 4, gNum b (y.2 + 12) 4, gNum b (y.2 + 16) 4], [], []⟩ else none
  else if (shp t).nn = 1 then (if (shp t).nu * (shp t).wd ≤ b.length then (gName b ((shp t).nu * (shp t).wd)).map fun x => ⟨[x.1], (List.range (shp t).nu).map (fun i => gNum b (i * (shp t).wd) (shp t).wd), [], []⟩ else none)
  else if t = 16 then (gTexts b 0).map fun l => ⟨[], [], l, []⟩
  else if t = 257 then (if 2 ≤ b.length ∧ 2 + (b.getD 1 0).toNat ≤ b.length then some ⟨[], [gNum b 0 1], [lb ((b.drop 2).take (b.getD 1 0).toNat), lb (b.drop (2 + (b.getD 1 0).toNat))], []⟩ else none)
  else some ⟨[], [], [], b⟩
/-- What the document reads of bytes. -/
def dreadF (t : Nat) (b : List Int) : Option Dat := (guessF t b).bind fun d => if checkF t d = 0 ∧ writeF t d = b then some d else none
theorem nmB_len (n : List ByteArray) : (nmB n).length = nsz n := by
  have := nby_len n
  simp [nmB]; omega
theorem gName_at (P R : List Int) (n : List ByteArray) (h : nck n = 0) : gName (P ++ (nmB n ++ R)) P.length = some (n, P.length + nsz n) := by
  unfold gName
  have hl := nmB_len n
  have hz : 1 ≤ nsz n := by have := nsz_len n; omega
  have e : P ++ (nmB n ++ R) = P ++ (nby n ++ (0 :: R)) := by simp [nmB]
  rw [if_pos (by simp [hl]; omega), e, rgo_nby n P R [] (nck_small h).2]
  have := nby_len n
  simp [h]
  omega
theorem numB_len (n wd : Nat) (h : wd = 1 ∨ wd = 2 ∨ wd = 4) : (numB n wd).length = wd := by
  rcases h with rfl | rfl | rfl <;> simp [numB]
theorem val_numB (n wd : Nat) (h : (wd = 1 ∧ n ≤ 255) ∨ (wd = 2 ∧ n ≤ 65535) ∨ (wd = 4 ∧ n ≤ 4294967295)) : (val (numB n wd)).toNat = n := by
  rcases h with ⟨rfl, h⟩ | ⟨rfl, h⟩ | ⟨rfl, h⟩
  · simp [numB, val]
  · simp only [numB, val]
    simp
    omega
  · simp only [numB, val]
    simp
    omega
theorem gNum_at (P R : List Int) (n wd p : Nat) (h : (wd = 1 ∧ n ≤ 255) ∨ (wd = 2 ∧ n ≤ 65535) ∨ (wd = 4 ∧ n ≤ 4294967295)) (hp : p = P.length) : gNum (P ++ (numB n wd ++ R)) p wd = n := by
  subst hp
  unfold gNum
  have hl := numB_len n wd (by omega)
  rw [List.drop_left, List.take_append_of_le_length (by omega), List.take_of_length_le (by omega)]
  exact val_numB n wd h
theorem gTexts_at : ∀ (l : List ByteArray) (P : List Int), gTexts (P ++ nby l) P.length = some l
  | [], P => by
    rw [gTexts, dif_neg (by simp [nby])]
  | s :: r, P => by
    have hf : nby (s :: r) = (s.size : Int) :: (nums s ++ nby r) := by simp [nby]
    have hg : (P ++ nby (s :: r)).getD P.length 0 = (s.size : Int) := by rw [hf]; simp [List.getD_eq_getElem?_getD]
    have hl : (P ++ nby (s :: r)).length = P.length + (1 + (s.size + (nby r).length)) := by rw [hf]; simp [nums_len]; omega
    rw [gTexts, dif_pos (by rw [hl]; omega), hg, Int.toNat_natCast, if_pos (by rw [hl]; omega)]
    have ih := gTexts_at r (P ++ ((s.size : Int) :: nums s))
    have e1 : P ++ nby (s :: r) = P ++ ((s.size : Int) :: nums s) ++ nby r := by rw [hf]; simp
    have e2 : (P ++ ((s.size : Int) :: nums s)).length = P.length + 1 + s.size := by simp [nums_len]; omega
    have hd : ((P ++ nby (s :: r)).drop (P.length + 1)).take s.size = nums s := by
      rw [hf, List.drop_append, List.drop_eq_nil_of_le (by omega), Nat.add_sub_cancel_left, List.nil_append]
      show (nums s ++ _).take s.size = nums s
      rw [List.take_append_of_le_length (by rw [nums_len]; exact Nat.le_refl _), List.take_of_length_le (by rw [nums_len]; exact Nat.le_refl _)]
    have hlb : lb (nums s) = s := txt_back s
    rw [e2] at ih
    rw [hd, hlb]
    conv => lhs; arg 2; rw [e1]
    rw [ih]
    rfl
end Go.Proofs.YtfkfjodfjgjbkaaGreatDoor
/- What is written of data is read as them; data that are read were written so; folded data; their order. No text of the program is used here. -/
namespace Go.Proofs.YtfkfjodfjgjbkaaGreatDoor
open Go.ChangeShapes Go.WideShapes Go.ChangeAt Go.RowKit
set_option linter.unusedVariables false
set_option linter.unusedSimpArgs false




theorem nsErr_all : ∀ l : List (List ByteArray), nsErr l = 0 ↔ ∀ n ∈ l, nck n = 0
  | [] => by simp [nsErr]
  | n :: r => by
    have ih := nsErr_all r
    unfold nsErr
    by_cases h : nck n = 0
    · rw [if_pos h, ih]; simp [h]
    · rw [if_neg h]; simp [h]
theorem check_parts {t : Nat} {d : Dat} (h : checkF t d = 0) : mayT t = true ∧ fitsB t d = true ∧ (∀ n ∈ d.ns, nck n = 0) ∧ sizesF t d ≤ 65535 := by
  unfold checkF at h
  split at h
  · rename_i h1
    split at h
    · rename_i h2
      split at h
      · rename_i h3
        split at h
        · cases h
        · rename_i h4
          exact ⟨h1, h2, (nsErr_all _).1 h3, by omega⟩
      · rename_i h3; exact absurd h h3
    · cases h
  · cases h
theorem check_of {t : Nat} {d : Dat} (h1 : mayT t = true) (h2 : fitsB t d = true) (h3 : ∀ n ∈ d.ns, nck n = 0) (h4 : sizesF t d ≤ 65535) : checkF t d = 0 := by
  unfold checkF
  rw [if_pos h1, if_pos h2, if_pos ((nsErr_all _).2 h3), if_neg (by omega)]
/-- The fields of data that fit. -/
structure Fit (t : Nat) (d : Dat) : Prop where
  ns : d.ns.length = (shp t).nn
  us : d.us.length = (shp t).nu
  ts : (shp t).nt < 0 ∨ (d.ts.length : Int) = (shp t).nt
  t1 : 0 ≤ (shp t).nt ∨ d.ts.length ≠ 0
  raw : (shp t).nr < 0 ∨ (d.raw.length : Int) = (shp t).nr
  un : ∀ n ∈ d.us, n ≤ most (shp t).wd
  tx : t = 16 → ∀ s ∈ d.ts, s.size ≤ 255
  tg : t = 257 → tagB (d.ts.getD 0 ⟨#[]⟩) = true
theorem fit_iff (t : Nat) (d : Dat) : fitsB t d = true ↔ Fit t d := by
  unfold fitsB
  simp only [Bool.and_eq_true, Bool.or_eq_true, decide_eq_true_eq, List.all_eq_true]
  constructor
  · rintro ⟨⟨⟨⟨⟨⟨⟨a, b⟩, c⟩, e⟩, f⟩, g⟩, h⟩, i⟩
    exact ⟨a, b, c, e, f, g, fun ht => h.resolve_left (fun hn => hn ht), fun ht => i.resolve_left (fun hn => hn ht)⟩
  · rintro ⟨a, b, c, e, f, g, h, i⟩
    refine ⟨⟨⟨⟨⟨⟨⟨a, b⟩, c⟩, e⟩, f⟩, g⟩, ?_⟩, ?_⟩
    · by_cases ht : t = 16
      · exact .inr (h ht)
      · exact .inl ht
    · by_cases ht : t = 257
      · exact .inr (i ht)
      · exact .inl ht
theorem len0 {α : Type} {l : List α} (h : l.length = 0) : l = [] := List.eq_nil_of_length_eq_zero h
theorem len1 {α : Type} {l : List α} (h : l.length = 1) : ∃ a, l = [a] := List.length_eq_one_iff.1 h
theorem len2 {α : Type} {l : List α} (h : l.length = 2) : ∃ a b, l = [a, b] := by
  match l, h with
  | [a, b], _ => exact ⟨a, b, rfl⟩
theorem len3 {α : Type} {l : List α} (h : l.length = 3) : ∃ a b c, l = [a, b, c] := by
  match l, h with
  | [a, b, c], _ => exact ⟨a, b, c, rfl⟩
theorem len5 {α : Type} {l : List α} (h : l.length = 5) : ∃ a b c e f, l = [a, b, c, e, f] := by
  match l, h with
  | [a, b, c, e, f], _ => exact ⟨a, b, c, e, f, rfl⟩
/-- The eleven ways of a type. -/
theorem shp_cases (t : Nat) : (t = 1 ∧ shp t = ⟨0, 0, 0, 4, 0⟩) ∨ (t = 28 ∧ shp t = ⟨0, 0, 0, 16, 0⟩) ∨ ((t = 2 ∨ t = 5 ∨ t = 12) ∧ shp t = ⟨1, 0, 0, 0, 0⟩) ∨ (t = 6 ∧ shp t = ⟨2, 5, 0, 0, 4⟩) ∨ (t = 15 ∧ shp t = ⟨1, 1, 0, 0, 2⟩) ∨ (t = 33 ∧ shp t = ⟨1, 3, 0, 0, 2⟩) ∨ (t = 16 ∧ shp t = ⟨0, 0, -1, 0, 0⟩) ∨ (t = 257 ∧ shp t = ⟨0, 1, 2, 0, 1⟩) ∨
    ((t ≠ 1 ∧ t ≠ 28 ∧ t ≠ 2 ∧ t ≠ 5 ∧ t ≠ 12 ∧ t ≠ 6 ∧ t ≠ 15 ∧ t ≠ 33 ∧ t ≠ 16 ∧ t ≠ 257) ∧ shp t = ⟨0, 0, 0, -1, 0⟩) := by
  by_cases h1 : t = 1
  · subst h1; left; exact ⟨rfl, rfl⟩
  by_cases h2 : t = 28
  · subst h2; right; left; exact ⟨rfl, rfl⟩
  by_cases h3 : t = 2 ∨ t = 5 ∨ t = 12
  · right; right; left; refine ⟨h3, ?_⟩; rcases h3 with rfl | rfl | rfl <;> rfl
  by_cases h4 : t = 6
  · subst h4; right; right; right; left; exact ⟨rfl, rfl⟩
  by_cases h5 : t = 15
  · subst h5; right; right; right; right; left; exact ⟨rfl, rfl⟩
  by_cases h6 : t = 33
  · subst h6; right; right; right; right; right; left; exact ⟨rfl, rfl⟩
  by_cases h7 : t = 16
  · subst h7; right; right; right; right; right; right; left; exact ⟨rfl, rfl⟩
  by_cases h8 : t = 257
  · subst h8; right; right; right; right; right; right; right; left; exact ⟨rfl, rfl⟩
  · right; right; right; right; right; right; right; right
    refine ⟨⟨h1, h2, fun e => h3 (.inl e), fun e => h3 (.inr (.inl e)), fun e => h3 (.inr (.inr e)), h4, h5, h6, h7, h8⟩, ?_⟩
    unfold shp
    rw [if_neg h1, if_neg h2, if_neg h3, if_neg h4, if_neg h5, if_neg h6, if_neg h7, if_neg h8]
theorem guess_write (t : Nat) (d : Dat) (h : checkF t d = 0) : guessF t (writeF t d) = some d := by
  obtain ⟨h1, h2, h3, h4⟩ := check_parts h
  have hf := (fit_iff t d).1 h2
  obtain ⟨ns, us, ts, raw⟩ := d
  obtain ⟨fns, fus, fts, ft1, fraw, fun_, ftx, ftg⟩ := hf
  simp only at fns fus fts ft1 fraw fun_ ftx ftg h3
  rcases shp_cases t with ⟨rfl, e⟩ | ⟨rfl, e⟩ | ⟨ht, e⟩ | ⟨rfl, e⟩ | ⟨rfl, e⟩ | ⟨rfl, e⟩ | ⟨rfl, e⟩ | ⟨rfl, e⟩ | ⟨ht, e⟩ <;> rw [e] at fns fus fts ft1 fraw fun_ <;> simp only at fns fus fts ft1 fraw fun_
  · obtain rfl := len0 fns
    obtain rfl := len0 fus
    obtain rfl := len0 (l := ts) (by omega)
    simp [guessF, writeF, e, tsB]
  · obtain rfl := len0 fns
    obtain rfl := len0 fus
    obtain rfl := len0 (l := ts) (by omega)
    simp [guessF, writeF, e, tsB]
  · obtain ⟨n, rfl⟩ := len1 fns
    obtain rfl := len0 fus
    obtain rfl := len0 (l := ts) (by omega)
    obtain rfl := len0 (l := raw) (by omega)
    have hg := gName_at [] [] n (h3 n (by simp))
    simp only [List.nil_append, List.length_nil, List.append_nil] at hg
    have h6 : t ≠ 6 := by rcases ht with rfl | rfl | rfl <;> decide
    have hw : writeF t ⟨[n], [], [], []⟩ = nmB n := by
      unfold writeF tsB
      rw [if_neg h6]
      split <;> simp [nby]
    rw [hw]
    unfold guessF
    rw [if_neg h6, e]
    simp [hg]
  · obtain ⟨n, m, rfl⟩ := len2 fns
    obtain ⟨a, b, c, x, y, rfl⟩ := len5 fus
    obtain rfl := len0 (l := ts) (by omega)
    obtain rfl := len0 (l := raw) (by omega)
    have hb : ∀ z ∈ [a, b, c, x, y], z ≤ 4294967295 := fun_
    have hw : writeF 6 ⟨[n, m], [a, b, c, x, y], [], []⟩ = nmB n ++ (nmB m ++ (numB a 4 ++ (numB b 4 ++ (numB c 4 ++ (numB x 4 ++ (numB y 4 ++ [])))))) := by simp [writeF]
    rw [hw]
    have g1 := gName_at [] (nmB m ++ (numB a 4 ++ (numB b 4 ++ (numB c 4 ++ (numB x 4 ++ (numB y 4 ++ [])))))) n (h3 n (by simp))
    have g2 := gName_at (nmB n) (numB a 4 ++ (numB b 4 ++ (numB c 4 ++ (numB x 4 ++ (numB y 4 ++ []))))) m (h3 m (by simp))
    have l1 := nmB_len n
    have l2 := nmB_len m
    have na := numB_len a 4 (by simp)
    have nb := numB_len b 4 (by simp)
    have nc := numB_len c 4 (by simp)
    have nx := numB_len x 4 (by simp)
    have ny := numB_len y 4 (by simp)
    have k1 := gNum_at (nmB n ++ nmB m) (numB b 4 ++ (numB c 4 ++ (numB x 4 ++ (numB y 4 ++ [])))) a 4 (nsz n + nsz m) (.inr (.inr ⟨rfl, hb a (by simp)⟩)) (by simp [l1, l2])
    have k2 := gNum_at (nmB n ++ nmB m ++ numB a 4) (numB c 4 ++ (numB x 4 ++ (numB y 4 ++ []))) b 4 (nsz n + nsz m + 4) (.inr (.inr ⟨rfl, hb b (by simp)⟩)) (by simp only [List.length_append, l1, l2, na])
    have k3 := gNum_at (nmB n ++ nmB m ++ numB a 4 ++ numB b 4) (numB x 4 ++ (numB y 4 ++ [])) c 4 (nsz n + nsz m + 8) (.inr (.inr ⟨rfl, hb c (by simp)⟩)) (by simp only [List.length_append, l1, l2, na, nb])
    have k4 := gNum_at (nmB n ++ nmB m ++ numB a 4 ++ numB b 4 ++ numB c 4) (numB y 4 ++ []) x 4 (nsz n + nsz m + 12) (.inr (.inr ⟨rfl, hb x (by simp)⟩)) (by simp only [List.length_append, l1, l2, na, nb, nc])
    have k5 := gNum_at (nmB n ++ nmB m ++ numB a 4 ++ numB b 4 ++ numB c 4 ++ numB x 4) [] y 4 (nsz n + nsz m + 16) (.inr (.inr ⟨rfl, hb y (by simp)⟩)) (by simp only [List.length_append, l1, l2, na, nb, nc, nx])
    simp only [List.append_assoc] at k1 k2 k3 k4 k5
    simp only [List.nil_append, List.length_nil, Nat.zero_add] at g1
    rw [l1] at g2
    unfold guessF
    rw [if_pos rfl, g1]
    simp only [Option.bind_some]
    rw [g2]
    simp only [Option.bind_some]
    rw [if_pos (by simp [l1, l2, na, nb, nc, nx, ny]; omega), k1, k2, k3, k4, k5]
  · obtain ⟨n, rfl⟩ := len1 fns
    obtain ⟨a, rfl⟩ := len1 fus
    obtain rfl := len0 (l := ts) (by omega)
    obtain rfl := len0 (l := raw) (by omega)
    have hb : ∀ z ∈ [a], z ≤ 65535 := fun_
    have hw : writeF 15 ⟨[n], [a], [], []⟩ = numB a 2 ++ (nmB n ++ []) := by simp [writeF, e, tsB]
    rw [hw]
    have na := numB_len a 2 (by simp)
    have g1 := gName_at (numB a 2) [] n (h3 n (by simp))
    have k1 := gNum_at [] (nmB n ++ []) a 2 0 (.inr (.inl ⟨rfl, hb a (by simp)⟩)) rfl
    rw [na] at g1
    simp only [List.nil_append] at k1
    unfold guessF
    rw [if_neg (by decide), e]
    simp only [if_true]
    rw [if_pos (by simp [na]), show 1 * 2 = 2 from rfl, g1]
    simp [List.range_succ]
    simpa using k1
  · obtain ⟨n, rfl⟩ := len1 fns
    obtain ⟨a, b, c, rfl⟩ := len3 fus
    obtain rfl := len0 (l := ts) (by omega)
    obtain rfl := len0 (l := raw) (by omega)
    have hb : ∀ z ∈ [a, b, c], z ≤ 65535 := fun_
    have hw : writeF 33 ⟨[n], [a, b, c], [], []⟩ = numB a 2 ++ (numB b 2 ++ (numB c 2 ++ (nmB n ++ []))) := by simp [writeF, e, tsB]
    rw [hw]
    have na := numB_len a 2 (by simp)
    have nb := numB_len b 2 (by simp)
    have nc := numB_len c 2 (by simp)
    have g1 := gName_at (numB a 2 ++ numB b 2 ++ numB c 2) [] n (h3 n (by simp))
    have k1 := gNum_at [] (numB b 2 ++ (numB c 2 ++ (nmB n ++ []))) a 2 0 (.inr (.inl ⟨rfl, hb a (by simp)⟩)) rfl
    have k2 := gNum_at (numB a 2) (numB c 2 ++ (nmB n ++ [])) b 2 2 (.inr (.inl ⟨rfl, hb b (by simp)⟩)) (by rw [na])
    have k3 := gNum_at (numB a 2 ++ numB b 2) (nmB n ++ []) c 2 4 (.inr (.inl ⟨rfl, hb c (by simp)⟩)) (by simp [na, nb])
    simp only [List.append_assoc, List.length_append, na, nb, nc, List.nil_append] at g1 k1 k2 k3
    unfold guessF
    rw [if_neg (by decide), e]
    simp only [if_true]
    rw [if_pos (by simp [na, nb, nc]; omega), show 3 * 2 = 2 + (2 + 2) from rfl, g1]
    simp only [Option.map_some]
    rw [show List.range 3 = [0, 1, 2] from rfl]
    simp only [List.map_cons, List.map_nil, Nat.zero_mul, Nat.one_mul]
    rw [k1, k2, show 2 * 2 = 4 from rfl, k3]
  · obtain rfl := len0 fns
    obtain rfl := len0 fus
    obtain rfl := len0 (l := raw) (by omega)
    have hw : writeF 16 ⟨[], [], ts, []⟩ = nby ts := by simp [writeF, tsB]
    have g1 := gTexts_at ts []
    simp only [List.nil_append, List.length_nil] at g1
    rw [hw]
    unfold guessF
    rw [if_neg (by decide), e]
    simp [g1]
  · obtain rfl := len0 fns
    obtain ⟨a, rfl⟩ := len1 fus
    obtain ⟨s, u, rfl⟩ := len2 (l := ts) (by omega)
    obtain rfl := len0 (l := raw) (by omega)
    have hb : ∀ z ∈ [a], z ≤ 255 := fun_
    have hw : writeF 257 ⟨[], [a], [s, u], []⟩ = (a : Int) :: (s.size : Int) :: (nums s ++ nums u) := by simp [writeF, e, tsB, numB]
    rw [hw]
    have hl : ((a : Int) :: (s.size : Int) :: (nums s ++ nums u)).length = 2 + (s.size + u.size) := by simp [nums_len]; omega
    have hd : ((a : Int) :: (s.size : Int) :: (nums s ++ nums u)).getD 1 0 = (s.size : Int) := rfl
    unfold guessF
    rw [if_neg (by decide), e, if_neg (by decide), if_neg (by decide), if_pos rfl, hd, Int.toNat_natCast, hl, if_pos ⟨by omega, by omega⟩]
    have d1 : (((a : Int) :: (s.size : Int) :: (nums s ++ nums u)).drop 2).take s.size = nums s := by
      show (nums s ++ nums u).take s.size = nums s
      rw [List.take_append_of_le_length (by rw [nums_len]; exact Nat.le_refl _), List.take_of_length_le (by rw [nums_len]; exact Nat.le_refl _)]
    have d2 : ((a : Int) :: (s.size : Int) :: (nums s ++ nums u)).drop (2 + s.size) = nums u := by
      rw [Nat.add_comm]
      show (nums s ++ nums u).drop s.size = nums u
      rw [List.drop_append_of_le_length (by rw [nums_len]; exact Nat.le_refl _), List.drop_eq_nil_of_le (by rw [nums_len]; exact Nat.le_refl _), List.nil_append]
    have d3 : gNum ((a : Int) :: (s.size : Int) :: (nums s ++ nums u)) 0 1 = a := by simp [gNum, val]
    rw [d1, d2, d3, show lb (nums s) = s from txt_back s, show lb (nums u) = u from txt_back u]
  · obtain rfl := len0 fns
    obtain rfl := len0 fus
    obtain rfl := len0 (l := ts) (by omega)
    have hw : writeF t ⟨[], [], [], raw⟩ = raw := by
      unfold writeF tsB
      rw [if_neg ht.2.2.2.2.2.1, if_neg ht.2.2.2.2.2.2.2.2.1]
      simp
    rw [hw]
    unfold guessF
    rw [if_neg ht.2.2.2.2.2.1, e, if_neg (by decide), if_neg ht.2.2.2.2.2.2.2.2.1, if_neg ht.2.2.2.2.2.2.2.2.2]
theorem read_write (t : Nat) (d : Dat) (h : checkF t d = 0) : dreadF t (writeF t d) = some d := by
  unfold dreadF
  rw [guess_write t d h]
  simp [h]
theorem write_read {t : Nat} {b : List Int} {d : Dat} (h : dreadF t b = some d) : checkF t d = 0 ∧ writeF t d = b := by
  unfold dreadF at h
  cases hg : guessF t b with
  | none => rw [hg] at h; cases h
  | some x =>
    rw [hg] at h
    simp only [Option.bind_some] at h
    split at h
    · rename_i hc; cases h; exact hc
    · cases h
/-- Whatever reads so reads as the document. -/
theorem read_unique {t : Nat} {b : List Int} {o : Option Dat} (h1 : ∀ d, o = some d → checkF t d = 0 ∧ writeF t d = b) (h2 : o = none → ∀ d, checkF t d = 0 → writeF t d ≠ b) : o = dreadF t b := by
  cases ho : o with
  | none =>
    cases hd : dreadF t b with
    | none => rfl
    | some d => exact absurd (write_read hd).2 (h2 ho d (write_read hd).1)
  | some d =>
    obtain ⟨a, e⟩ := h1 d ho
    rw [← e, read_write t d a]
end Go.Proofs.YtfkfjodfjgjbkaaGreatDoor
