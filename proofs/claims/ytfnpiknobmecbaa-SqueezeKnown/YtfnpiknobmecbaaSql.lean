/- A writer's shorten: a name's bytes with a pointer in the place of its longest tail that is kept. -/
import Derived.Test.YtfnpiknobmecbaaSqq
import Derived.Test.YtfnpiknobmecbaaSql0
import Derived.Test.YtfnpiknobmecbaaSqb2
import Derived.Test.YtfnpiknobmecbaaNum
namespace Go.Proofs.Ytfnpiknobmecbaa
open Go.ChangeShapes Go.WideShapes Go.ChangeAt Go.RowKit Go.Maps Go.Shelf
set_option linter.unusedVariables false
set_option linter.unusedSimpArgs false
attribute [local go_sem] Oper.semAt_some

theorem PlM.look {W : World} {mb : Nat} {pl : List (ByteArray × Nat)} (h : PlM W mb pl) (t : ByteArray) (ht : t.size ≤ 255) :
    (Instr.lookup 48 (.map (some mb)) (.string t) true).run Try.prog W = .ok (.tuple #[.int .i64 ((qfind pl t).getD 0 : Nat), .bool (qfind pl t).isSome]) W := by
  obtain ⟨M, h1, h2⟩ := h
  have hkey : keyOf Try.prog 9 (.string t) = some (.string t.data.toList) := Go.WideMaps.keyOf_string_mk Try.underlying9 (by unfold maxLen; omega)
  obtain ⟨v, ps, hrun, hv⟩ := h1.look_ok law9 Try.underlying48 (zero3 W) (zd := .lit (.int .i64 0)) (zp := []) (plainElem_int Try.underlying3 (by decide)) hkey
  obtain ⟨c, rfl, hc, _⟩ := plainElem_int_inv Try.underlying3 hv
  rw [hrun]
  cases hf : qfind pl t with
  | none =>
    have e := (h2 t).1 hf
    rw [e]
    have hat := atKey_of_not_has e (.lit (.int .i64 0))
    rw [hat] at hc
    have := congrArg Prod.fst hc
    simp only at this
    cases this
    rfl
  | some p =>
    obtain ⟨e, hat⟩ := (h2 t).2 p hf
    rw [e]
    rw [hat] at hc
    have := congrArg Prod.fst hc
    simp only at this
    cases this
    rfl
theorem new_rd2 (w : World) (y z : Int) (hy : 0 ≤ y ∧ y ≤ 255) (hz : 0 ≤ z ∧ z ≤ 255) : Rd (w.alloc (.cells #[.int .u8 y, .int .u8 z] 5)) (some ⟨w.heap.size, 0, none⟩) [y, z] := by
  refine ⟨.inr ⟨w.heap.size, 0, rfl, by simp, fun i hi => ?_⟩, by simp; omega⟩
  have : i = 0 ∨ i = 1 := by simp at hi; omega
  rcases this with rfl | rfl <;> simp [go_sem]
theorem Own.setOther {B : Nat} {w : World} {v : Value} {n : Nat} {ys : List Int} (h : Own B w v n ys) {j k : Nat} {cs : Array Value} {t : TypeId} {fr : Nat × Nat} (hj : w.heap[j]? = some (.cells cs t fr)) (ht : t ≠ 5) (u : Value) : Own B (w.setCell ⟨j, k, none⟩ u) v n ys :=
  h.keepAt (fun g e hl => (grown_set w j k u).block g hl (fun e2 => by
    obtain ⟨_, cs', e1⟩ := h.blk5 g e
    simp only [Option.some.injEq] at e2
    subst e2
    rw [hj] at e1; cases e1; exact ht rfl))
theorem Own.lower {B B' : Nat} {w : World} {v : Value} {n : Nat} {ys : List Int} (h : Own B w v n ys) (hB : B' ≤ B) : Own B' w v n ys := by
  rcases h with h | ⟨g, h1, h2, h3⟩
  · exact .inl h
  · exact .inr ⟨g, h1, Nat.le_trans hB h2, h3⟩
theorem iup_mem {n : Nat} : ∀ {k j : Nat}, j < k → k ≤ n → ∀ h : j < n, (⟨j, h⟩ : Ix n) ∈ iup n k
  | 0, _, h, _, _ => by omega
  | k + 1, j, hj, hk, h => by
    rw [iup_succ (by omega)]
    by_cases e : j = k
    · subst e; simp
    · exact List.mem_append_left _ (iup_mem (by omega) (by omega) h)
theorem own_from_own {n₀ B : Nat} {v : Value} {n : Nat} {ys : List Int} {A W : World} {row : Option Nat} (h : Own n₀ A v n ys) (hg : A.grownBy W row) (hr : ∀ r, row = some r → B ≤ r ∧ ∃ o : Obj, A.heap[r]? = some o ∧ o.isCells = false) : Own n₀ W v n ys :=
  h.keepAt (fun g e hl => hg.block g hl (fun e2 => by
    obtain ⟨_, cs, e1⟩ := h.blk5 g e
    obtain ⟨_, o, e3, e4⟩ := hr g e2.symm
    rw [e1] at e3; cases e3; cases e4))
/-- What shorten tells. -/
def ShPost (pl : List (ByteArray × Nat)) (ss : List ByteArray) (w : World) (e : Ending) (w' : World) : Prop :=
  ∃ a' n' c', e = .returned (.tuple #[.slice a' n' c', .int .i64 (qob pl ss : Nat)]) ∧ Hid (Rd w' a' (qshort pl ss) ∧ (qshort pl ss).length = n' ∧ (a' = none → c' = 0) ∧ Below w.heap.size w w')
set_option maxRecDepth 100000 in
set_option maxHeartbeats 4000000 in
theorem shorten_any (B g : Nat) (tx : List Int) (pl : List (ByteArray × Nat)) (a : Option Addr) (n c : Nat) (ss : List ByteArray) (w : World) (h : Wr B w g tx pl) (hk : nck ss = 0) (hP : ∀ k p, (k, p) ∈ pl → p < 16384) (hr : Rd w a (nby ss ++ [0])) (hn : (nby ss ++ [0]).length = n) (hnc : n ≤ c) (hc : c ≤ 9223372036854775807) :
    Calls Try.prog 43 #[.pointer (some ⟨g, 0, none⟩), .slice a n c] w (ShPost pl ss w) := by
  obtain ⟨v, ys, mb, h⟩ := h
  have hg := box_lt h.box
  have c2 : w.cell? ⟨g, 2, none⟩ = some (.map (some mb)) := box_cell h.box 2 _ rfl
  have hcv : ∀ W, Below w.heap.size w W → (convert 27 9 (.slice a n c)).run Try.prog W = .ok (.string (qkey ss)) W := fun W hW => conv_rd a n c _ W (hr.below hW) hn
  have hx : (convert 27 9 (.slice a n c)).run Try.prog ((((w.alloc (.cells #[.pointer (some ⟨g, 0, none⟩)] 24)).alloc (.cells #[.slice a n c] 27)).alloc (.cells #[.slice none 0 0] 27)).alloc (.cells #[.int .i64 0] 3)) = .ok (.string (qkey ss)) ((((w.alloc (.cells #[.pointer (some ⟨g, 0, none⟩)] 24)).alloc (.cells #[.slice a n c] 27)).alloc (.cells #[.slice none 0 0] 27)).alloc (.cells #[.int .i64 0] 3)) := hcv _ (((((Below.refl _ w).alloc (Nat.le_refl _) _).alloc (by simp) _).alloc (by simp; omega) _).alloc (by simp; omega) _)
  clear hcv
  have hlo := labs_of hk
  have hsz : (qkey ss).size = n := by rw [qkey_size, ← nby_len, ← hn]; simp
  have hn255 : n ≤ 255 := by rw [← hsz, qkey_size]; exact (nck_small hk).1
  have HR : Hid (Rd w a (nby ss ++ [0])) := hr
  have HM : Hid (PlM w mb pl) := h.map
  have hmb : mb < w.heap.size := by obtain ⟨es, cl, e⟩ := h.map.isMap; exact box_lt e
  have ha : ∃ x, a = some x := by
    cases a with
    | none => rcases hr.1 with h1 | ⟨b, o, h1, _⟩
              · simp at h1
              · cases h1
    | some x => exact ⟨x, rfl⟩
  obtain ⟨x, rfl⟩ := ha
  have HST : Hid (∀ (F : Fence) (m Bs : Nat) (W : World), F.fn 59 → F.round = none → 1 ≤ m → Boxed W Bs 9 (.string (qkey ss)) → SeqStopsK F m Try.prog 59 #[.pointer (some ⟨Bs, 0, none⟩)] (fun x : Ix ss.length => #[Value.int .i64 (offs ss x.1 : Nat)]) (KpS Bs) (fun ys => ys = iup ss.length ss.length) (fun pre => ∃ k, k ≤ ss.length ∧ pre = iup ss.length k) ss.length W) := fun F m Bs W h1 h2 h3 h4 => tails_stops F m h1 h2 h3 Bs ss hk W h4
  have HT : Hid (∀ k, (qkey ss).extract (offs ss k) (qkey ss).size = qkey (ss.drop k) ∧ (qkey (ss.drop k)).size ≤ 255) := fun k => ⟨qkey_tail ss hlo k, by rw [qkey_size]; have := nsz_drop ss k; have := (nck_small hk).1; omega⟩
  clear h hr
  have HS0 : Hid (∃ s, qkey ss = s) := ⟨_, rfl⟩
  obtain ⟨s, hS⟩ : ∃ s, qkey ss = s := ⟨_, rfl⟩
  rw [hS] at hx hsz HST HT
  have HS : Hid (qkey ss = s) := hS
  clear hS HS0
  refine (callsIn_wide (n := 3)).1 ?_
  refine callsIn_of_wp_marks Try.func43 rfl trivial ?_ rfl
  simp only [Try.ntmps43, List.size_toArray, List.length_cons, List.length_nil, Nat.reduceAdd, Nat.reduceSub, Array.replicate_succ, Array.replicate_zero, List.push_toArray, List.append_toArray, List.nil_append, List.cons_append]
  gi_wp2_with (refine ⟨trivial, ?_⟩; gi_at_call 54; refine (callsIn_wide.2 (tails_any _ _)).mono ?_; rintro e w' ⟨rfl, rfl⟩)
  have b0 := (((((Boxed.new w 24 (.pointer (some ⟨g, 0, none⟩))).alloc (.cells #[.slice (some x) n c] 27)).alloc (.cells #[.slice none 0 0] 27)).alloc (.cells #[.int .i64 0] 3)).alloc (.cells #[.string s] 9)).alloc (.cells #[.string s] 9)
  have b1 := ((((Boxed.new (w.alloc (.cells #[.pointer (some ⟨g, 0, none⟩)] 24)) 27 (.slice (some x) n c)).alloc (.cells #[.slice none 0 0] 27)).alloc (.cells #[.int .i64 0] 3)).alloc (.cells #[.string s] 9)).alloc (.cells #[.string s] 9)
  have b2 := (((Boxed.new ((w.alloc (.cells #[.pointer (some ⟨g, 0, none⟩)] 24)).alloc (.cells #[.slice (some x) n c] 27)) 27 (.slice none 0 0)).alloc (.cells #[.int .i64 0] 3)).alloc (.cells #[.string s] 9)).alloc (.cells #[.string s] 9)
  have b3 := ((Boxed.new (((w.alloc (.cells #[.pointer (some ⟨g, 0, none⟩)] 24)).alloc (.cells #[.slice (some x) n c] 27)).alloc (.cells #[.slice none 0 0] 27)) 3 (.int .i64 0)).alloc (.cells #[.string s] 9)).alloc (.cells #[.string s] 9)
  have b4 := (Boxed.new ((((w.alloc (.cells #[.pointer (some ⟨g, 0, none⟩)] 24)).alloc (.cells #[.slice (some x) n c] 27)).alloc (.cells #[.slice none 0 0] 27)).alloc (.cells #[.int .i64 0] 3)) 9 (.string s)).alloc (.cells #[.string s] 9)
  have b5 := Boxed.new (((((w.alloc (.cells #[.pointer (some ⟨g, 0, none⟩)] 24)).alloc (.cells #[.slice (some x) n c] 27)).alloc (.cells #[.slice none 0 0] 27)).alloc (.cells #[.int .i64 0] 3)).alloc (.cells #[.string s] 9)) 9 (.string s)
  simp only [World.size_alloc] at b1 b2 b3 b4 b5
  have hB0 : Below w.heap.size w ((((((w.alloc (.cells #[.pointer (some ⟨g, 0, none⟩)] 24)).alloc (.cells #[.slice (some x) n c] 27)).alloc (.cells #[.slice none 0 0] 27)).alloc (.cells #[.int .i64 0] 3)).alloc (.cells #[.string s] 9)).alloc (.cells #[.string s] 9)) := ((((((Below.refl _ w).alloc (Nat.le_refl _) _).alloc (by simp) _).alloc (by simp; omega) _).alloc (by simp; omega) _).alloc (by simp; omega) _).alloc (by simp; omega) _
  have hz0 : ((((((w.alloc (.cells #[.pointer (some ⟨g, 0, none⟩)] 24)).alloc (.cells #[.slice (some x) n c] 27)).alloc (.cells #[.slice none 0 0] 27)).alloc (.cells #[.int .i64 0] 3)).alloc (.cells #[.string s] 9)).alloc (.cells #[.string s] 9)).heap.size = w.heap.size + 6 := by simp
  clear hx
  generalize ((((((w.alloc (.cells #[.pointer (some ⟨g, 0, none⟩)] 24)).alloc (.cells #[.slice (some x) n c] 27)).alloc (.cells #[.slice none 0 0] 27)).alloc (.cells #[.int .i64 0] 3)).alloc (.cells #[.string s] 9)).alloc (.cells #[.string s] 9)) = W0 at *
  refine wpIn_rangeFunc_ownG rfl (by omega) (gf := 59) (lb := #[.pointer (some ⟨w.heap.size + 1 + 1 + 1 + 1 + 1, 0, none⟩)]) rfl trivial (enters_of Try.func59 (by kernel_rfl) rfl)
    (HST.out Fence.wide _ _ W0 trivial rfl (by omega) b5) kpS_t (kpS_b (w := W0)) (Below.refl _ _) (fun _ => rfl)
    (fun pre W => (((((Boxed W w.heap.size 24 (.pointer (some ⟨g, 0, none⟩)) ∧ Boxed W (w.heap.size + 1) 27 (.slice (some x) n c)) ∧ Boxed W (w.heap.size + 1 + 1) 27 (.slice none 0 0)) ∧ Boxed W (w.heap.size + 1 + 1 + 1) 3 (.int .i64 0)) ∧ Boxed W (w.heap.size + 1 + 1 + 1 + 1) 9 (.string s)) ∧ Hid (∀ y ∈ pre, qfind pl (qkey (ss.drop y.1)) = none)) ∧ Below w.heap.size w W)
    (fun cc pre W => (cc = .ret ∧ ∃ (q : List (Ix ss.length)) (y : Ix ss.length) (p : Nat) (ao : Option Addr) (zs : List Int), (Boxed W (w.heap.size + 1 + 1) 27 (.slice ao (offs ss y.1 + 2) zs.length) ∧ Boxed W (w.heap.size + 1 + 1 + 1) 3 (.int .i64 (offs ss y.1 : Nat))) ∧ Own w.heap.size W (.slice ao (offs ss y.1 + 2) zs.length) (offs ss y.1 + 2) zs ∧ Hid (pre = q ++ [y] ∧ (∀ z ∈ q, qfind pl (qkey (ss.drop z.1)) = none) ∧ qfind pl (qkey (ss.drop y.1)) = some p ∧ zs.take (offs ss y.1 + 2) = nby (ss.take y.1) ++ [192 + (p : Int) / 256, (p : Int) % 256])) ∧ Below w.heap.size w W)
    (OwnFrom.and (OwnFrom.and (OwnFrom.and (OwnFrom.and (OwnFrom.and (OwnFrom.and ((boxed_own _ _ _).from _) ((boxed_own _ _ _).from _)) ((boxed_own _ _ _).from _)) ((boxed_own _ _ _).from _)) ((boxed_own _ _ _).from _)) (ownFrom_pure _ _)) (ownFrom_below (Nat.le_refl _) (by omega)))
    (fun cc => OwnFrom.and (fun pre A W row hs hg hr => by
      obtain ⟨e1, q, y, p, ao, zs, ⟨e2, e3⟩, e4, e5⟩ := hs
      exact ⟨e1, q, y, p, ao, zs, ⟨((boxed_own (β := Unit) (w.heap.size + 1 + 1) 27 (fun _ => .slice ao (offs ss y.1 + 2) zs.length)).from _) () A W row e2 hg hr, ((boxed_own (β := Unit) (w.heap.size + 1 + 1 + 1) 3 (fun _ => .int .i64 (offs ss y.1 : Nat))).from _) () A W row e3 hg hr⟩, own_from_own e4 hg hr, e5⟩) (ownFrom_below (Nat.le_refl _) (by omega)))
    ⟨⟨⟨⟨⟨⟨b0, b1⟩, b2⟩, b3⟩, b4⟩, fun y hy => nomatch hy⟩, hB0⟩
    (fun y => { tmps := #[.pointer (some ⟨g, 0, none⟩), .slice (some x) n c, .pointer (some ⟨w.heap.size, 0, none⟩), .pointer (some ⟨w.heap.size + 1, 0, none⟩), .pointer (some ⟨w.heap.size + 1 + 1, 0, none⟩), .pointer (some ⟨w.heap.size + 1 + 1 + 1, 0, none⟩), .pointer (some ⟨w.heap.size + 1 + 1 + 1 + 1, 0, none⟩), .int .i64 (offs ss y.1 : Nat), undef, undef, undef, undef, .slice (some x) n c, .string s, .string s, .func (.func 59) #[] #[.pointer (some ⟨w.heap.size + 1 + 1 + 1 + 1 + 1, 0, none⟩)], .int .i64 (offs ss y.1 : Nat), undef, undef, undef, undef, undef, undef, undef, undef, undef, undef, undef, undef, undef, undef, undef, undef, undef, undef, undef, undef, undef, undef, undef, undef, undef, undef, undef, undef, undef, undef, undef], defers := [] }) ?assign ?body ?done ?stop
  case assign =>
    intro l y W K hK
    gi_wp2
    exact hK
  case body =>
    rintro l pre ⟨k, hkl⟩ W ⟨⟨⟨⟨⟨⟨hb0, hb1⟩, hb2⟩, hb3⟩, hb4⟩, HC⟩, hB⟩ _
    have d0 := hb0.cell
    have d1 := hb1.cell
    have d4 := hb4.cell
    have f2 := hb2.frozen
    have f3 := hb3.frozen
    have d2 := hb2.cell
    have d3 := hb3.cell
    have dg := cell_below hB hg c2
    have hgW : g < W.heap.size := Nat.lt_of_lt_of_le hg hB.size
    clear b0 b1 b2 b3 b4 b5
    obtain ⟨t, ht⟩ : ∃ t, qkey (ss.drop k) = t := ⟨_, rfl⟩
    have hext := (HT.out k).1
    have htz := (HT.out k).2
    rw [ht] at hext htz
    have HPl : Hid (PlM W mb pl) := HM.out.same (hB.block mb hmb)
    have hlk : ∀ k, (Instr.lookup 48 (.map (some mb)) (.string t) true).run Try.prog (W.drewN k) = .ok (.tuple #[.int .i64 ((qfind pl t).getD 0 : Nat), .bool (qfind pl t).isSome]) (W.drewN k) := fun k => (show PlM (W.drewN k) mb pl from HPl.out.same rfl).look t htz
    rw [hsz] at hext
    have HFT : Hid (qkey (ss.drop k) = t) := ht
    have ho : offs ss k + 1 ≤ n := by rw [← hsz, ← HS.out, qkey_size]; exact offs_le ss k
    obtain ⟨P, hPo⟩ : ∃ P, offs ss k = P := ⟨_, rfl⟩
    have HPO : Hid (offs ss k = P) := hPo
    rw [hPo] at ho hext ⊢
    have hP1 : (P : Int) ≤ (s.size : Int) := by omega
    have hP2 : (0 : Int) ≤ (P : Int) := by omega
    clear hPo ht
    cases hf : qfind pl t with
    | none =>
      rw [hf] at hlk
      simp only [Option.getD_none, Option.isSome_none] at hlk
      have HN : Hid (∀ y ∈ pre ++ [(⟨k, hkl⟩ : Ix ss.length)], qfind pl (qkey (ss.drop y.1)) = none) := by
        intro y hy
        rcases List.mem_append.1 hy with hy | hy
        · exact HC.out y hy
        · simp at hy; subst hy; rw [HFT.out]; exact hf
      clear hf
      gi_wp2
      refine region_round (F := Fence.wide) rfl (by rfl) (by kernel_rfl) (by kernel_rfl) ?_
      repeat (gi_big_quiet_step (fail))
      refine wpQuietIn_nil ?_
      intro _ hw'
      obtain ⟨nq, hw''⟩ := hw'
      subst hw''
      gi_wp2
      exact ⟨⟨Nat.le_refl _, fun k o _ h _ => h⟩, fun v h => h, ⟨⟨⟨⟨⟨hb0, hb1⟩, hb2⟩, hb3⟩, hb4⟩, HN⟩, ⟨hB.os, hB.tape, hB.output, hB.size, hB.block⟩⟩
    | some p =>
      rw [hf] at hlk
      simp only [Option.getD_some, Option.isSome_some] at hlk
      have hp := hP _ _ (qfind_mem hf)
      have HF : Hid (qfind pl t = some p) := hf
      have e1 : ((49152 : Int) + (p : Int)) / 256 = 192 + (p : Int) / 256 := by omega
      have e2 : ((49152 : Int) + (p : Int)) % 256 = (p : Int) % 256 := by omega
      have KP : Hid (∀ W, Calls Try.prog 45 #[.int .i64 (49152 + (p : Int))] W fun e w' => e = .returned (.tuple #[.slice (some ⟨W.heap.size, 0, none⟩) 2 2, .int .i64 0]) ∧ w' = W.alloc (.cells #[.int .u8 (192 + (p : Int) / 256), .int .u8 ((p : Int) % 256)] 5)) := fun W => by
        have := put16_yes (49152 + (p : Int)) W (by omega) (by omega)
        rw [e1, e2] at this
        exact this
      have HRT : Hid (∀ W, Below w.heap.size w W → Rd W (some x) (nby (ss.take k))) := fun W hW => by
        have h1 := (HR.out.below hW).cut (a' := some x) 0 P (by rw [hn]; omega) (fun _ b o e => by cases e; rfl)
        have h2 : ((nby ss ++ [0]).drop 0).take P = nby (ss.take k) := by
          rw [List.drop_zero, nby_split ss k, List.append_assoc, List.take_append_of_le_length (by rw [← HPO.out]; exact Nat.le_refl _), List.take_of_length_le (by rw [← HPO.out]; exact Nat.le_refl _)]
        rw [h2] at h1
        exact h1
      have hPc : (P : Int) ≤ (c : Int) := by omega
      have HKN : Hid ((nby (ss.take k)).length = P) := HPO.out
      have s1 : w.heap.size + 1 < W.heap.size := hb1.lt
      have s2 : w.heap.size + 1 + 1 < W.heap.size := hb2.lt
      have s3 : w.heap.size + 1 + 1 + 1 < W.heap.size := hb3.lt
      clear hf e1 e2 HST HT hP hlo hk
      gi_wp2
      refine region_round (F := Fence.wide) rfl (by rfl) (by kernel_rfl) (by kernel_rfl) ?_
      repeat (gi_big_quiet_step (fail))
      refine wpQuietIn_nil ?_
      intro _ hw'
      obtain ⟨nq, hw''⟩ := hw'
      subst hw''
      have hBn : Below w.heap.size w (W.drewN nq) := ⟨hB.os, hB.tape, hB.output, hB.size, hB.block⟩
      have HALL : Hid (∀ w2, w2 = (W.drewN nq).alloc (.cells #[.int .u8 (192 + (p : Int) / 256), .int .u8 ((p : Int) % 256)] 5) → w2.cell? ⟨w.heap.size + 1, 0, none⟩ = some (.slice (some x) n c) ∧ ∃ ao3 w3 y3, (Builtin.append_ #[27, 27] 27 #[.slice (some x) P P, .slice (some ⟨W.heap.size, 0, none⟩) 2 2]).run Try.prog w2 = .ok (.slice ao3 (P + 2) y3.length) w3 ∧ (Boxed w3 (w.heap.size + 1 + 1) 27 (.slice none 0 0) ∧ Boxed w3 (w.heap.size + 1 + 1 + 1) 3 (.int .i64 0)) ∧ Hid (Below w.heap.size w w3 ∧ Own w2.heap.size w3 (.slice ao3 (P + 2) y3.length) (P + 2) y3 ∧ y3.take (P + 2) = nby (ss.take k) ++ [192 + (p : Int) / 256, (p : Int) % 256] ∧ w.heap.size ≤ w2.heap.size ∧ KeepsOthers W w3)) := by
        rintro w2 rfl
        have q1 : Below w.heap.size w ((W.drewN nq).alloc (.cells #[.int .u8 (192 + (p : Int) / 256), .int .u8 ((p : Int) % 256)] 5)) := hBn.alloc hBn.size _
        have q2 := new_rd2 (W.drewN nq) (192 + (p : Int) / 256) ((p : Int) % 256) (by omega) (by omega)
        have q3 := (show Boxed (W.drewN nq) _ _ _ from hb2).alloc (.cells #[.int .u8 (192 + (p : Int) / 256), .int .u8 ((p : Int) % 256)] 5)
        have q4 := (show Boxed (W.drewN nq) _ _ _ from hb3).alloc (.cells #[.int .u8 (192 + (p : Int) / 256), .int .u8 ((p : Int) % 256)] 5)
        have q5 : KeepsOthers W ((W.drewN nq).alloc (.cells #[.int .u8 (192 + (p : Int) / 256), .int .u8 ((p : Int) % 256)] 5)) := (show KeepsOthers W (W.drewN nq) from ⟨Nat.le_refl _, fun k o h _ => h⟩).trans (KeepsOthers.alloc _ _)
        refine ⟨((show Boxed (W.drewN nq) _ _ _ from hb1).alloc _).cell, ?_⟩
        generalize (W.drewN nq).alloc (.cells #[.int .u8 (192 + (p : Int) / 256), .int .u8 ((p : Int) % 256)] 5) = w2 at *
        obtain ⟨v3, w3, y3, hrun, hO3, hT3, hB3⟩ := run_append_cut w2 27 x P (nby (ss.take k)) (HRT.out w2 q1) HKN.out (some ⟨W.heap.size, 0, none⟩) 2 2 [192 + (p : Int) / 256, (p : Int) % 256] q2 rfl (by omega) (by omega)
        obtain ⟨ao3, rfl, _⟩ := hO3.addr
        exact ⟨ao3, w3, y3, hrun, ⟨(hB3.block _ q3.lt).trans q3, (hB3.block _ q4.lt).trans q4⟩, q1.trans (hB3.mono q1.size), hO3, hT3, q1.size, q5.trans ⟨hB3.size, fun k o h _ => (hB3.block k (Array.getElem?_eq_some_iff.1 h).1).trans h⟩⟩
      clear hlk hext
      gi_wp2_with (first
        | (refine ⟨trivial, ?_⟩; gi_at_call 45; refine (CallsIn.inRound l (callsIn_wide.2 (KP.out _))).mono ?_; rintro e w2 ⟨rfl, hw2⟩; obtain ⟨D1, ao3, w3, y3, hrun, hg23, H3⟩ := HALL.out w2 hw2; clear hw2; have HG := Lib.hid hg23; have g2c := hg23.1.cell; have g2f := hg23.1.frozen; have g3c := hg23.2.cell; have g3f := hg23.2.frozen; have hl2 := hg23.1.lt; have hl3 := hg23.2.lt; clear hg23)
        | (gi_at_builtin; refine wpListIn_append_eq _ rfl _ _ 27 27 rfl _ _ _ _ rfl rfl hrun ?_))
      have bx2 : Boxed (w3.setCell ⟨w.heap.size + 1 + 1, 0, none⟩ (.slice ao3 (P + 2) y3.length)) (w.heap.size + 1 + 1) 27 (.slice ao3 (P + 2) y3.length) := HG.out.1.set _
      have bx3 : Boxed (w3.setCell ⟨w.heap.size + 1 + 1, 0, none⟩ (.slice ao3 (P + 2) y3.length)) (w.heap.size + 1 + 1 + 1) 3 (.int .i64 0) := HG.out.2.other (by omega) _
      have ow := ((H3.out.2.1.lower H3.out.2.2.2.1).setOther (k := 0) HG.out.1 (by decide) (.slice ao3 (P + 2) y3.length)).setOther (k := 0) bx3 (by decide) (.int .i64 (P : Int))
      have bl := (H3.out.1.setCell (p := ⟨w.heap.size + 1 + 1, 0, none⟩) (by simp; omega) (.slice ao3 (P + 2) y3.length)).setCell (p := ⟨w.heap.size + 1 + 1 + 1, 0, none⟩) (by simp; omega) (.int .i64 (P : Int))
      have HFIN : Hid (pre ++ [(⟨k, hkl⟩ : Ix ss.length)] = pre ++ [⟨k, hkl⟩] ∧ (∀ z ∈ pre, qfind pl (qkey (ss.drop z.1)) = none) ∧ qfind pl (qkey (ss.drop k)) = some p ∧ y3.take (P + 2) = nby (ss.take k) ++ [192 + (p : Int) / 256, (p : Int) % 256]) := ⟨rfl, HC.out, by rw [HFT.out]; exact HF.out, H3.out.2.2.1⟩
      refine ⟨((H3.out.2.2.2.2.trans (KeepsOthers.setCell _ _ _)).trans (KeepsOthers.setCell _ _ _)).from _, ⟨rfl, pre, ⟨k, hkl⟩, p, ao3, y3, ?_⟩, bl⟩
      rw [HPO.out]
      exact ⟨⟨bx2.other (by omega) _, bx3.set _⟩, ow, HFIN⟩
  case done =>
    rintro D xs W hD rfl ⟨⟨⟨⟨⟨⟨hb0, hb1⟩, hb2⟩, hb3⟩, hb4⟩, HC⟩, hB⟩ hK
    clear b0 b1 b2 b3 b4 b5 HST HT hB0
    have d1 := hb1.cell
    have d2 := hb2.cell
    have d3 := hb3.cell
    have f2 := hb2.frozen
    have f3 := hb3.frozen
    have s2 := hb2.lt
    have s3 := hb3.lt
    gi_wp2
    gi_region
    gi_wp2
    have hK2 : (((W.setCell ⟨w.heap.size + 1 + 1, 0, none⟩ (.slice (some x) n c)).setCell ⟨w.heap.size + 1 + 1 + 1, 0, none⟩ (.int .i64 (n : Int))).drew).heap[D]? = some (.deferred (some [])) := ((KeepsOthers.setCell W ⟨w.heap.size + 1 + 1, 0, none⟩ (.slice (some x) n c)).trans (KeepsOthers.setCell _ ⟨w.heap.size + 1 + 1 + 1, 0, none⟩ (.int .i64 (n : Int)))).same D _ hK rfl
    have hall : ∀ j, j < ss.length → qfind pl (qkey (ss.drop j)) = none := fun j hj => HC.out ⟨j, hj⟩ (iup_mem hj (Nat.le_refl _) hj)
    have hq := short_none pl ss hall
    have hqob : qob pl ss = n := by unfold qob; rw [hq.1, if_neg (by omega), ← hn, ← nby_len]; simp
    have bl : Below w.heap.size w (((W.setCell ⟨w.heap.size + 1 + 1, 0, none⟩ (.slice (some x) n c)).setCell ⟨w.heap.size + 1 + 1 + 1, 0, none⟩ (.int .i64 (n : Int))).drew) := by
      have := (hB.setCell (p := ⟨w.heap.size + 1 + 1, 0, none⟩) (by simp; omega) (.slice (some x) n c)).setCell (p := ⟨w.heap.size + 1 + 1 + 1, 0, none⟩) (by simp; omega) (.int .i64 (n : Int))
      exact ⟨this.os, this.tape, this.output, this.size, this.block⟩
    have k2 : Boxed (((W.setCell ⟨w.heap.size + 1 + 1, 0, none⟩ (.slice (some x) n c)).setCell ⟨w.heap.size + 1 + 1 + 1, 0, none⟩ (.int .i64 (n : Int))).drew) (w.heap.size + 1 + 1) 27 (.slice (some x) n c) := (hb2.set _).other (by omega) _
    have k3 : Boxed (((W.setCell ⟨w.heap.size + 1 + 1, 0, none⟩ (.slice (some x) n c)).setCell ⟨w.heap.size + 1 + 1 + 1, 0, none⟩ (.int .i64 (n : Int))).drew) (w.heap.size + 1 + 1 + 1) 3 (.int .i64 (n : Int)) := (hb3.other (by omega) _).set _
    generalize (((W.setCell ⟨w.heap.size + 1 + 1, 0, none⟩ (.slice (some x) n c)).setCell ⟨w.heap.size + 1 + 1 + 1, 0, none⟩ (.int .i64 (n : Int))).drew) = W5 at *
    have bl2 := bl.trans (belowK_b (w := w) (Nat.le_refl _) W5 D _ (.deferred none) (by omega) hK2 rfl rfl)
    have k2' := (k2.kept (grownBy_putObj' W5 D (.deferred none)) (by simp; omega)).cell
    have k3' := (k3.kept (grownBy_putObj' W5 D (.deferred none)) (by simp; omega)).cell
    refine ⟨by simp, .inl ⟨_, _, rfl, run_takeDeferred hK2, ?_⟩⟩
    refine ⟨.tuple #[.slice (some x) n c, .int .i64 (n : Int)], by simp [results, Try.results43, go_sem, k2', k3'], some x, n, c, by rw [hqob], ?_, ?_, by simp, bl2⟩
    · rw [hq.2]; exact HR.out.below bl2
    · rw [hq.2]; exact hn
  case stop =>
    rintro D cc pre W hD ⟨k, hk9, rfl⟩ ⟨⟨rfl, q, y, p, ao, zs, ⟨hb2, hb3⟩, hO, HC⟩, hB⟩ hK
    clear b0 b1 b2 b3 b4 b5 HST HT hB0
    have k2' := (hb2.kept (grownBy_putObj' W D (.deferred none)) (by simp; omega)).cell
    have k3' := (hb3.kept (grownBy_putObj' W D (.deferred none)) (by simp; omega)).cell
    have bl2 := hB.trans (belowK_b (w := w) (Nat.le_refl _) W D _ (.deferred none) (by omega) hK rfl rfl)
    obtain ⟨e1, e2, e3, e4⟩ := HC.out
    obtain ⟨j, rfl⟩ : ∃ j, k = j + 1 := ⟨k - 1, by cases k with | zero => simp [iup] at e1 | succ k => rfl⟩
    have hjl : j < ss.length := hk9
    rw [iup_succ hjl] at e1
    obtain ⟨rfl, ey⟩ := List.append_inj' e1 rfl
    have ey' : y = ⟨j, hjl⟩ := by simpa using ey.symm
    subst ey'
    have hq := short_at pl ss j p (by omega) (fun i hi => e2 ⟨i, by omega⟩ (iup_mem hi (by omega) (by omega))) e3
    have hqob : qob pl ss = offs ss j := by unfold qob; rw [hq.1, if_pos (by omega)]
    have hO2 := own_from_own (B := 0) hO (grownBy_putObj' W D (.deferred none)) (fun r e => by cases e; exact ⟨Nat.zero_le _, _, hK, rfl⟩)
    obtain ⟨ao', e5, hA⟩ := hO2.addr
    cases e5
    have hrd := hA.rdTake (offs ss j + 2)
    simp only at e4
    rw [e4, ← hq.2] at hrd
    have hle := hA.le
    have hqn : (qshort pl ss).length = offs ss j + 2 := by rw [hq.2]; simp [offs]
    gi_wp2
    refine ⟨by simp, .inl ⟨_, _, rfl, run_takeDeferred hK, ?_⟩⟩
    refine ⟨.tuple #[.slice ao (offs ss j + 2) zs.length, .int .i64 (offs ss j : Nat)], by simp [results, Try.results43, go_sem, k2', k3'], ao, _, _, by rw [hqob], hrd, hqn, hA.nil, bl2⟩
end Go.Proofs.Ytfnpiknobmecbaa
