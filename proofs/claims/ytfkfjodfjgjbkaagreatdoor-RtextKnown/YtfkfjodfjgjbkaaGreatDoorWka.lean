/- Texts laid together: Qc Qh Qi Qv Qj Qk Ql Qq. -/
import Derived.Test.YtfkfjodfjgjbkaaGreatDoorWqm
/- The reader of words: numbers, texts, addresses. -/
namespace Go.Proofs.YtfkfjodfjgjbkaaGreatDoor
open Go.ChangeShapes Go.WideShapes Go.ChangeAt Go.RowKit
set_option linter.unusedVariables false
set_option linter.unusedSimpArgs false

theorem OwnV.blk {B : Nat} {w : World} {t : TypeId} {v : Value} {n : Nat} {xs : List Value} (h : OwnV B w t v n xs) : ∀ g, v.ownBlock = some g → BlkV w g t xs := by
  intro g hg
  rcases h with ⟨rfl, _⟩ | ⟨g', rfl, _, h3, _⟩
  · cases hg
  · have : g' = g := Option.some.inj hg
    subst this; exact h3
theorem OwnV.off {B : Nat} {w w' : World} {t t' : TypeId} {v : Value} {n : Nat} {xs : List Value} (h : OwnV B w t v n xs) {o : Option Nat} (hg : w.grownBy w' o) (ho : ∀ j, o = some j → ∃ zs, BlkV w j t' zs) (hne : t ≠ t') : OwnV B w' t v n xs :=
  h.keep fun g e hlt => hg.block g hlt (fun e' => by obtain ⟨zs, hz⟩ := ho g e'.symm; exact absurd (blk_ty (h.blk g e) hz) hne)
theorem Own1.off {B : Nat} {w w' : World} {t' : TypeId} {s : Sl} {us : List ByteArray} (h : Own1 B w s us) {o : Option Nat} (hg : w.grownBy w' o) (ho : ∀ j, o = some j → ∃ zs, BlkV w j t' zs) (hne : (9 : TypeId) ≠ t') : Own1 B w' s us := by
  obtain ⟨ys, ⟨h1, h2⟩, h3⟩ := h
  exact ⟨ys, ⟨h1.off hg ho hne, h2⟩, h3⟩
theorem OwnN.off {B : Nat} {w w' : World} {t' : TypeId} {v : Value} {us : List (List ByteArray)} (h : OwnN B w v us) {o : Option Nat} (hg : w.grownBy w' o) (ho : ∀ j, o = some j → ∃ zs, BlkV w j t' zs) (hne : (9 : TypeId) ≠ t' ∨ us = []) (hne' : (45 : TypeId) ≠ t') : OwnN B w' v us := by
  obtain ⟨xs, h1, h2⟩ := h
  refine ⟨xs, h1.off hg ho hne', fun i hi => ?_⟩
  rcases hne with hne | rfl
  · obtain ⟨s, e1, e2⟩ := h2 i hi
    exact ⟨s, e1, e2.off hg ho hne⟩
  · simp at hi
theorem UOwn.off {B : Nat} {w w' : World} {t' : TypeId} {s : Sl} {us : List Nat} (h : UOwn B w s us) {o : Option Nat} (hg : w.grownBy w' o) (ho : ∀ j, o = some j → ∃ zs, BlkV w j t' zs) (hne : (70 : TypeId) ≠ t') : UOwn B w' s us := by
  obtain ⟨xs, h1, h2⟩ := h
  exact ⟨xs, h1.off hg ho hne, h2⟩
theorem BOwn.off {B : Nat} {w w' : World} {t' : TypeId} {s : Sl} {zs : List Int} (h : BOwn B w s zs) {o : Option Nat} (hg : w.grownBy w' o) (ho : ∀ j, o = some j → ∃ zs, BlkV w j t' zs) (hne : (5 : TypeId) ≠ t') : BOwn B w' s zs := by
  obtain ⟨ys, q1, q2⟩ := h
  refine ⟨ys, ?_, q2⟩
  rcases q1 with q | ⟨g, e1, e2, e3, e4⟩
  · exact .inl q
  · refine .inr ⟨g, e1, e2, e3.same (hg.block g e3.lt (fun e => ?_)), e4⟩
    obtain ⟨zs, hz⟩ := ho g e.symm
    have := hz.symm.trans e3.1
    simp at this
    exact absurd this.2.symm hne
theorem RX.app2 {w0 w w' : World} {wa : Option Addr} {n c : Nat} {oa : Option Addr} {on oc : Nat} {x : DA} {bad : Bool} {d : Dat} (h : RX w0 w wa n c oa on oc x bad d) {o : Option Nat} (hg : w.grownBy w' o) (ho : ∀ j, o = some j → w0.heap.size + 1 ≤ j ∧ ∃ zs, BlkV w j 70 zs)
    (t' : Sl) (us' : List Nat) (hN : UOwn (w0.heap.size + 1) w' t' us') : RX w0 (w'.setCell ⟨w0.heap.size, 3, none⟩ (.slice t'.a t'.n t'.c)) wa n c oa on oc ⟨x.p1, t', x.p3, x.p4⟩ bad ⟨d.ns, us', d.ts, d.raw⟩ := by
  obtain ⟨h1, h2⟩ := h.grown hg (fun j e => (ho j e).1)
  have hk : ∀ j, w0.heap.size + 1 ≤ j → j < w'.heap.size → (w'.setCell ⟨w0.heap.size, 3, none⟩ (.slice t'.a t'.n t'.c)).heap[j]? = w'.heap[j]? := fun j hj _ => Below.heap_setCell _ _ _ j (by show j ≠ w0.heap.size; omega)
  have ho' := fun j e => (ho j e).2
  exact ⟨h1.set3 t', ⟨(h.own.1.off hg ho' (.inl (by decide)) (by decide)).keep hk, hN.keep hk, (h.own.2.2.1.off hg ho' (by decide)).keep (fun j a b _ => hk j a b), (h.own.2.2.2.off hg ho' (by decide)).keep hk⟩, h2.setCell (show w0.heap.size ≤ (⟨w0.heap.size, 3, none⟩ : Addr).block from Nat.le_refl _) _⟩
theorem RX.app3 {w0 w w' : World} {wa : Option Addr} {n c : Nat} {oa : Option Addr} {on oc : Nat} {x : DA} {bad : Bool} {d : Dat} (h : RX w0 w wa n c oa on oc x bad d) (hns : d.ns = []) {o : Option Nat} (hg : w.grownBy w' o) (ho : ∀ j, o = some j → w0.heap.size + 1 ≤ j ∧ ∃ zs, BlkV w j 9 zs)
    (t' : Sl) (ts' : List ByteArray) (hN : Own1 (w0.heap.size + 1) w' t' ts') : RX w0 (w'.setCell ⟨w0.heap.size, 4, none⟩ (.slice t'.a t'.n t'.c)) wa n c oa on oc ⟨x.p1, x.p2, t', x.p4⟩ bad ⟨d.ns, d.us, ts', d.raw⟩ := by
  obtain ⟨h1, h2⟩ := h.grown hg (fun j e => (ho j e).1)
  have hk : ∀ j, w0.heap.size + 1 ≤ j → j < w'.heap.size → (w'.setCell ⟨w0.heap.size, 4, none⟩ (.slice t'.a t'.n t'.c)).heap[j]? = w'.heap[j]? := fun j hj _ => Below.heap_setCell _ _ _ j (by show j ≠ w0.heap.size; omega)
  have ho' := fun j e => (ho j e).2
  exact ⟨h1.set4 t', ⟨(h.own.1.off hg ho' (.inr hns) (by decide)).keep hk, (h.own.2.1.off hg ho' (by decide)).keep hk, hN.keep (fun j a b _ => hk j a b), (h.own.2.2.2.off hg ho' (by decide)).keep hk⟩, h2.setCell (show w0.heap.size ≤ (⟨w0.heap.size, 4, none⟩ : Addr).block from Nat.le_refl _) _⟩
theorem RX.put4 {w0 w : World} {wa : Option Addr} {n c : Nat} {oa : Option Addr} {on oc : Nat} {x : DA} {bad : Bool} {d : Dat} (h : RX w0 w wa n c oa on oc x bad d) (t' : Sl) (zs : List Int) (hN : BOwn (w0.heap.size + 1) w t' zs) :
    RX w0 (w.setCell ⟨w0.heap.size, 5, none⟩ (.slice t'.a t'.n t'.c)) wa n c oa on oc ⟨x.p1, x.p2, x.p3, t'⟩ bad ⟨d.ns, d.us, d.ts, zs⟩ := by
  have hk : ∀ j, w0.heap.size + 1 ≤ j → j < w.heap.size → (w.setCell ⟨w0.heap.size, 5, none⟩ (.slice t'.a t'.n t'.c)).heap[j]? = w.heap[j]? := fun j hj _ => Below.heap_setCell _ _ _ j (by show j ≠ w0.heap.size; omega)
  exact ⟨h.blk.set5 t', ⟨h.own.1.keep hk, h.own.2.1.keep hk, h.own.2.2.1.keep (fun j a b _ => hk j a b), hN.keep hk⟩, h.bel.setCell (show w0.heap.size ≤ (⟨w0.heap.size, 5, none⟩ : Addr).block from Nat.le_refl _) _⟩
theorem st_us {w : World} {ops : Array Oper} {o : Oper} {a : Act} {K : Act → World → Prop} {Q : Exit → Act → World → Prop} {E : Prop} (hgd : o.guard = none) (s x : Operand)
    (ho : o.op = .call { callee := .builtin .append, args := #[s, x], argTypes := #[25, 25] }) (B : Nat) (s2 : Sl) (us : List Nat) (hs : a.eval s = .slice s2.a s2.n s2.c) (hown : UOwn B w s2 us)
    (ao : Addr) (hx : a.eval x = .slice (some ao) 1 1) (u : Nat) (hr : RdV w (some ao) [.int .u32 (u : Int)]) (hu : u ≤ 4294967295) (hn : us.length ≤ 1000) (hB : B ≤ w.heap.size)
    (h : ∀ (t' : Sl) w', Hid (UOwn B w' t' (us ++ [u])) → Hid (∃ o, w.grownBy w' o ∧ ∀ j, o = some j → B ≤ j ∧ ∃ zs, BlkV w j 70 zs) → K (a.put o.dst (.slice t'.a t'.n t'.c)) w') :
    if Region.wanted o (yielded ops a.tmps) = true then Oper.wp Tryz.prog o a w K Q else E := by
  refine st_nums hgd s x ho B s2 us hs hown ao hx u hr hu hn hB ?_
  intro t' w' h1 h2
  obtain ⟨xs, hx1, _⟩ := hown
  exact h t' w' h1 ⟨_, h2.out.1, fun j e => ⟨h2.out.2 j e, xs, hx1.blk j e⟩⟩
theorem st_ts {w : World} {ops : Array Oper} {o : Oper} {a : Act} {K : Act → World → Prop} {Q : Exit → Act → World → Prop} {E : Prop} (hgd : o.guard = none) (s x : Operand)
    (ho : o.op = .call { callee := .builtin .append, args := #[s, x], argTypes := #[26, 26] }) (B : Nat) (s3 : Sl) (ts : List ByteArray) (hs : a.eval s = .slice s3.a s3.n s3.c) (hown : Own1 B w s3 ts)
    (ao : Addr) (hx : a.eval x = .slice (some ao) 1 1) (u : ByteArray) (hr : RdT w (some ao) [u]) (hu : u.size ≤ 1000000000000) (hn : ts.length ≤ 1000000) (hB : B ≤ w.heap.size)
    (h : ∀ (t' : Sl) w', Hid (Own1 B w' t' (ts ++ [u])) → Hid (∃ o, w.grownBy w' o ∧ ∀ j, o = some j → B ≤ j ∧ ∃ zs, BlkV w j 9 zs) → K (a.put o.dst (.slice t'.a t'.n t'.c)) w') :
    if Region.wanted o (yielded ops a.tmps) = true then Oper.wp Tryz.prog o a w K Q else E := by
  obtain ⟨ss, ⟨q1, q2⟩, q3⟩ := hown
  have hM : ∀ s ∈ [u], s.size ≤ 1000000000000 := by intro s hs; simp at hs; subst hs; exact hu
  refine step_append_row tyT hgd s x 26 ho B _ ts.length (tv ss) hs q1 _ 1 (tv [u]) hx (src_of Tryz.underlying26 hr rfl (tv_one [u])) (by omega) (by simp only [maxLen]; omega) hB ?_
  intro v' w' xs' h1 h2 h3 h4
  obtain ⟨ys, rfl, hys⟩ := tv_of (M := 1000000000000) xs' (h4.out (QS 1000000000000) ⟨⟨#[]⟩, rfl, Nat.zero_le _⟩ (qs_tv q2) (qs_tv hM))
  obtain ⟨ao', rfl, _⟩ := h1.out.shape
  have h2' := h2.out
  rw [tv_take, tv_take, ← tv_append, q3] at h2'
  have h5 := tv_inj h2'
  rw [tv_len] at h1 ⊢
  exact h ⟨ao', ts.length + 1, ys.length⟩ w' ⟨ys, ⟨by simpa using h1.out, hys⟩, by simpa using h5⟩ ⟨_, h3.out, fun j e => ⟨q1.lt j e, _, q1.blk j e⟩⟩
set_option maxRecDepth 100000 in
set_option maxHeartbeats 4000000 in
theorem nums_ok (w0 w : World) (wa : Option Addr) (ws : List Wd) (N c : Nat) (oa : Option Addr) (on oc : Nat) (x : DA) (d : Dat) (nms : List Nat) (hN : nms.length = N) (hd : d.us.length + N ≤ 1000)
    (HI : ∀ k (h : k < N), ∃ s r nm, ws.drop k = (s, false) :: r ∧ s.size ≤ 1000000000 ∧ xnum (nums s) (2 ^ 32) = some nm ∧ nms[k]? = some nm) (hw : RdW w0 wa ws) (hc : ws.length ≤ c) (h63 : c ≤ 9223372036854775807) (h : RX w0 w wa ws.length c oa on oc x false d) :
    Calls Tryz.prog 119 #[.pointer (some ⟨w0.heap.size, 0, none⟩), .int .i64 (N : Int)] w (TkPost w0 (c - N) oa on oc (ws.drop N) ⟨d.ns, d.us ++ nms, d.ts, d.raw⟩) := by
  have HH : Hid (∀ k (h : k < N), ∃ s r nm, ws.drop k = (s, false) :: r ∧ s.size ≤ 1000000000 ∧ xnum (nums s) (2 ^ 32) = some nm ∧ nms[k]? = some nm) := HI
  have HN : Hid (nms.length = N) := hN
  have H0 : Hid (RdW w0 wa ws ∧ ws.length ≤ c ∧ RX w0 w wa ws.length c oa on oc x false d) := ⟨hw, hc, h⟩
  have hN1 : N ≤ 1000 := by omega
  have HD : Hid (d.us.length + N ≤ 1000) := hd
  clear HI hN hw hc h hd
  go_enter Tryz.func119, Tryz.ntmps119
  go_wp2_with fail
  go_loopw [7] (fun y wr => ∃ k : Nat, k ≤ N ∧ y = .int .i64 k ∧ Hid (∃ wa' x', RdW w0 wa' (ws.drop k) ∧ RX w0 wr wa' (ws.drop k).length (c - k) oa on oc x' false ⟨d.ns, d.us ++ nms.take k, d.ts, d.raw⟩)) (fun y _ => N - (intOf y).toNat)
  case atStart => exact ⟨0, Nat.zero_le _, rfl, wa, x, H0.out.1, by simpa using H0.out.2.2⟩
  case round =>
    obtain ⟨k, hk, rfl, HW⟩ := hrel
    by_cases hlt : k < N
    · have hlt' : (k : Int) < (N : Int) := by omega
      obtain ⟨s, r, nm, hdr, hsz, hrel, hnm⟩ := HH.out k hlt
      obtain ⟨wa', x', h1, h2⟩ := HW.out
      obtain ⟨q1, q2, q3⟩ := drop_get hdr
      have hcc := H0.out.2.1
      rw [hdr] at h1 h2
      have KB : Hid (∀ W, RX w0 W wa' (r.length + 1) (c - k) oa on oc x' false ⟨d.ns, d.us ++ nms.take k, d.ts, d.raw⟩ → Calls Tryz.prog 135 #[.pointer (some ⟨w0.heap.size, 0, none⟩)] W (NxPost s r w0 (c - k) oa on oc x' false ⟨d.ns, d.us ++ nms.take k, d.ts, d.raw⟩)) := fun W hW => bare_ok w0 W wa' s r (c - k) oa on oc x' false _ h1 (by omega) (by omega) hW
      have HX : Hid (RX w0 wr wa' (r.length + 1) (c - k) oa on oc x' false ⟨d.ns, d.us ++ nms.take k, d.ts, d.raw⟩) := h2
      have HXd : Hid (RX w0 wr.drew wa' (r.length + 1) (c - k) oa on oc x' false ⟨d.ns, d.us ++ nms.take k, d.ts, d.raw⟩) := h2.step (Below.refl _ _).drew
      have hkn : k < nms.length := by rw [HN.out]; exact hlt
      have hu := (xnum_some hrel).2
      have KR : Hid (∀ W, Calls Tryz.prog 96 #[.string s, .int .i64 32] W fun e w' => e = .returned (.tuple #[.int .u32 (nm : Int), .bool true]) ∧ Hid (Below W.heap.size W w')) := fun W => num_yes 32 (.inr rfl) s (by omega) nm hrel W
      have HT : Hid (nms.take (k + 1) = nms.take k ++ [nm]) := by show _ = _; rw [List.take_add_one, hnm]; rfl
      have HQ : Hid (r = ws.drop (k + 1) ∧ c - k - 1 = c - (k + 1)) := ⟨q2, by omega⟩
      have HL : Hid ((d.us ++ nms.take k).length ≤ 1000) := by
        have := HD.out
        show _ ≤ _
        rw [List.length_append, List.length_take]; omega
      generalize nms.take k = nmk at *
      clear h1 h2 hdr hsz hrel q1 q2 q3 hcc HW hkn hnm HXd
      go_wp2_with fail
      refine (KB.out _ HX.out).mono ?_
      rintro e w1 ⟨wb, rfl, H1, H2⟩
      go_wp2_with fail
      refine (KR.out _).mono ?_
      rintro e w2 ⟨rfl, H3⟩
      have HA : Hid (RX w0 w2 wb r.length (c - k - 1) oa on oc x' false ⟨d.ns, d.us ++ nmk, d.ts, d.raw⟩) := H2.out.step H3.out
      clear KB KR HX H2 H3
      have d6 : w2.cell? ⟨w0.heap.size, 6, none⟩ = some (.bool false) := HA.out.blk.cells.2.2.2.2.2.2
      have d2 : w2.cell? ⟨w0.heap.size, 3, none⟩ = some (.slice x'.p2.a x'.p2.n x'.p2.c) := HA.out.blk.cells.2.2.2.1
      have f6 := HA.out.blk.fz 6
      have f2 := HA.out.blk.fz 3
      have HS : Hid (RX w0 ((w2.setCell ⟨w0.heap.size, 6, none⟩ (.bool false)).alloc (.cells #[.int .u32 (nm : Int)] 70)) wb r.length (c - k - 1) oa on oc x' false ⟨d.ns, d.us ++ nmk, d.ts, d.raw⟩) := (HA.out.bad false).step (new_below _ _)
      have HO1 : Hid (RdV ((w2.setCell ⟨w0.heap.size, 6, none⟩ (.bool false)).alloc (.cells #[.int .u32 (nm : Int)] 70)) (some ⟨w2.heap.size, 0, none⟩) [.int .u32 (nm : Int)]) := by
        have := one_u (w2.setCell ⟨w0.heap.size, 6, none⟩ (.bool false)) (nm : Int)
        rw [World.size_setCell] at this
        exact this
      have HB : Hid (w0.heap.size + 1 ≤ ((w2.setCell ⟨w0.heap.size, 6, none⟩ (.bool false)).alloc (.cells #[.int .u32 (nm : Int)] 70)).heap.size) := HS.out.blk.lt
      go_wp2_with (at_builtin; refine wl_st rfl fun K hK => ?_; refine st_us rfl _ _ rfl (w0.heap.size + 1) x'.p2 (d.us ++ nmk) rfl HS.out.own.2.1 ⟨w2.heap.size, 0, none⟩ rfl nm HO1.out (by omega) HL.out HB.out ?_; intro t' w' hO hG; obtain ⟨og', hg1, hg2⟩ := hG.out; have HR := Lib.hid (HS.out.app2 hg1 hg2 t' _ hO.out); have hr := (HS.out.grown hg1 (fun j e => (hg2 j e).1)).1; have g2 := hr.cells.2.2.2.1; have gf := hr.fz 3; refine hK _ _ ?_)
      refine ⟨⟨k + 1, by omega, by go_num, wb, ⟨x'.p1, t', x'.p3, x'.p4⟩, ?_, ?_⟩, by simp [intOf]; omega⟩
      · rw [← HQ.out.1]; exact H1.out
      · rw [← HQ.out.1, ← HQ.out.2, HT.out, ← List.append_assoc]; exact HR.out
    · have hge : ¬ (k : Int) < (N : Int) := by omega
      have hkn : k = N := by omega
      subst hkn
      go_wp2_with fail
      go_end0
      obtain ⟨wa', x', h1, h2⟩ := HW.out
      have hx : nms.take k = nms := List.take_of_length_le (by rw [HN.out]; exact Nat.le_refl _)
      rw [hx] at h2
      exact ⟨_, wa', x', rfl, h1, h2⟩
set_option maxRecDepth 100000 in
set_option maxHeartbeats 4000000 in
theorem texts_ok (w0 w : World) (wa : Option Addr) (ws : List Wd) (N c : Nat) (oa : Option Addr) (on oc : Nat) (x : DA) (d : Dat) (nms : List ByteArray) (hns : d.ns = []) (hE : LayE w0) (hN : nms.length = N) (hd : d.ts.length + N ≤ 1000000)
    (HI : ∀ k (h : k < N), ∃ s q r nm, ws.drop k = (s, q) :: r ∧ s.size ≤ 1000000000 ∧ xstrR (nums s) = (nm, 0) ∧ nm.size ≤ 1000000000 ∧ nms[k]? = some nm) (hw : RdW w0 wa ws) (hc : ws.length ≤ c) (h63 : c ≤ 9223372036854775807) (h : RX w0 w wa ws.length c oa on oc x false d) :
    Calls Tryz.prog 120 #[.pointer (some ⟨w0.heap.size, 0, none⟩), .int .i64 (N : Int)] w (TkPost w0 (c - N) oa on oc (ws.drop N) ⟨d.ns, d.us, d.ts ++ nms, d.raw⟩) := by
  have HH : Hid (∀ k (h : k < N), ∃ s q r nm, ws.drop k = (s, q) :: r ∧ s.size ≤ 1000000000 ∧ xstrR (nums s) = (nm, 0) ∧ nm.size ≤ 1000000000 ∧ nms[k]? = some nm) := HI
  have HN : Hid (nms.length = N) := hN
  have H0 : Hid (RdW w0 wa ws ∧ ws.length ≤ c ∧ RX w0 w wa ws.length c oa on oc x false d) := ⟨hw, hc, h⟩
  have hN1 : N ≤ 1000000 := by omega
  have HD : Hid (d.ts.length + N ≤ 1000000) := hd
  have HE : Hid (LayE w0) := hE
  have HNS : Hid (d.ns = []) := hns
  clear HI hN hw hc h hd hE hns
  go_enter Tryz.func120, Tryz.ntmps120
  go_wp2_with fail
  go_loopw [7] (fun y wr => ∃ k : Nat, k ≤ N ∧ y = .int .i64 k ∧ Hid (∃ wa' x', RdW w0 wa' (ws.drop k) ∧ RX w0 wr wa' (ws.drop k).length (c - k) oa on oc x' false ⟨d.ns, d.us, d.ts ++ nms.take k, d.raw⟩)) (fun y _ => N - (intOf y).toNat)
  case atStart => exact ⟨0, Nat.zero_le _, rfl, wa, x, H0.out.1, by simpa using H0.out.2.2⟩
  case round =>
    obtain ⟨k, hk, rfl, HW⟩ := hrel
    by_cases hlt : k < N
    · have hlt' : (k : Int) < (N : Int) := by omega
      obtain ⟨s, qq, r, nm, hdr, hsz, hrel, hnz, hnm⟩ := HH.out k hlt
      obtain ⟨wa', x', h1, h2⟩ := HW.out
      obtain ⟨q1, q2, q3⟩ := drop_get hdr
      have hcc := H0.out.2.1
      rw [hdr] at h1 h2
      have KB : Hid (∀ W, RX w0 W wa' (r.length + 1) (c - k) oa on oc x' false ⟨d.ns, d.us, d.ts ++ nms.take k, d.raw⟩ → Calls Tryz.prog 137 #[.pointer (some ⟨w0.heap.size, 0, none⟩)] W (NxPost s r w0 (c - k) oa on oc x' false ⟨d.ns, d.us, d.ts ++ nms.take k, d.raw⟩)) := fun W hW => next_ok w0 W wa' s qq r (c - k) oa on oc x' false _ h1 (by omega) (by omega) hW
      have HX : Hid (RX w0 wr wa' (r.length + 1) (c - k) oa on oc x' false ⟨d.ns, d.us, d.ts ++ nms.take k, d.raw⟩) := h2
      have HXd : Hid (RX w0 wr.drew wa' (r.length + 1) (c - k) oa on oc x' false ⟨d.ns, d.us, d.ts ++ nms.take k, d.raw⟩) := h2.step (Below.refl _ _).drew
      have hkn : k < nms.length := by rw [HN.out]; exact hlt
      have KR : Hid (∀ W, Below w0.heap.size w0 W → Calls Tryz.prog 31 #[.string s] W fun e w' => e = .returned (.tuple #[.string nm, .int .i64 0]) ∧ Hid (Below W.heap.size W w')) := fun W hW => by
        have := string_any s W (by omega) (HE.out.below hW)
        rw [hrel] at this
        exact this
      have HT : Hid (nms.take (k + 1) = nms.take k ++ [nm]) := by show _ = _; rw [List.take_add_one, hnm]; rfl
      have HQ : Hid (r = ws.drop (k + 1) ∧ c - k - 1 = c - (k + 1)) := ⟨q2, by omega⟩
      have HL : Hid ((d.ts ++ nms.take k).length ≤ 1000000) := by
        have := HD.out
        show _ ≤ _
        rw [List.length_append, List.length_take]; omega
      generalize nms.take k = nmk at *
      clear h1 h2 hdr hsz hrel q1 q2 q3 hcc HW hkn hnm HXd
      go_wp2_with fail
      refine (KB.out _ HX.out).mono ?_
      rintro e w1 ⟨wb, rfl, H1, H2⟩
      go_wp2_with fail
      refine (KR.out _ H2.out.bel).mono ?_
      rintro e w2 ⟨rfl, H3⟩
      have HA : Hid (RX w0 w2 wb r.length (c - k - 1) oa on oc x' false ⟨d.ns, d.us, d.ts ++ nmk, d.raw⟩) := H2.out.step H3.out
      clear KB KR HX H2 H3
      have d6 : w2.cell? ⟨w0.heap.size, 6, none⟩ = some (.bool false) := HA.out.blk.cells.2.2.2.2.2.2
      have d2 : w2.cell? ⟨w0.heap.size, 4, none⟩ = some (.slice x'.p3.a x'.p3.n x'.p3.c) := HA.out.blk.cells.2.2.2.2.1
      have f6 := HA.out.blk.fz 6
      have f2 := HA.out.blk.fz 4
      have HS : Hid (RX w0 ((w2.setCell ⟨w0.heap.size, 6, none⟩ (.bool false)).alloc (.cells #[.string nm] 9)) wb r.length (c - k - 1) oa on oc x' false ⟨d.ns, d.us, d.ts ++ nmk, d.raw⟩) := (HA.out.bad false).step (new_below _ _)
      have HO1 : Hid (RdT ((w2.setCell ⟨w0.heap.size, 6, none⟩ (.bool false)).alloc (.cells #[.string nm] 9)) (some ⟨w2.heap.size, 0, none⟩) [nm]) := by
        have := one_rdT (w2.setCell ⟨w0.heap.size, 6, none⟩ (.bool false)) nm
        rw [World.size_setCell] at this
        exact this
      have HB : Hid (w0.heap.size + 1 ≤ ((w2.setCell ⟨w0.heap.size, 6, none⟩ (.bool false)).alloc (.cells #[.string nm] 9)).heap.size) := HS.out.blk.lt
      go_wp2_with (at_builtin; refine wl_st rfl fun K hK => ?_; refine st_ts rfl _ _ rfl (w0.heap.size + 1) x'.p3 (d.ts ++ nmk) rfl HS.out.own.2.2.1 ⟨w2.heap.size, 0, none⟩ rfl nm HO1.out (by omega) HL.out HB.out ?_; intro t' w' hO hG; obtain ⟨og', hg1, hg2⟩ := hG.out; have HR := Lib.hid (HS.out.app3 HNS.out hg1 hg2 t' _ hO.out); have hr := (HS.out.grown hg1 (fun j e => (hg2 j e).1)).1; have g2 := hr.cells.2.2.2.2.1; have gf := hr.fz 4; refine hK _ _ ?_)
      refine ⟨⟨k + 1, by omega, by go_num, wb, ⟨x'.p1, x'.p2, t', x'.p4⟩, ?_, ?_⟩, by simp [intOf]; omega⟩
      · rw [← HQ.out.1]; exact H1.out
      · rw [← HQ.out.1, ← HQ.out.2, HT.out, ← List.append_assoc]; exact HR.out
    · have hge : ¬ (k : Int) < (N : Int) := by omega
      have hkn : k = N := by omega
      subst hkn
      go_wp2_with fail
      go_end0
      obtain ⟨wa', x', h1, h2⟩ := HW.out
      have hx : nms.take k = nms := List.take_of_length_le (by rw [HN.out]; exact Nat.le_refl _)
      rw [hx] at h2
      exact ⟨_, wa', x', rfl, h1, h2⟩
end Go.Proofs.YtfkfjodfjgjbkaaGreatDoor
/- The reader of words: addresses, tags. -/
namespace Go.Proofs.YtfkfjodfjgjbkaaGreatDoor
open Go.ChangeShapes Go.WideShapes Go.ChangeAt Go.RowKit
set_option linter.unusedVariables false
set_option linter.unusedSimpArgs false

set_option maxRecDepth 100000 in
set_option maxHeartbeats 4000000 in
theorem addr_ok (w0 w : World) (wa : Option Addr) (s : ByteArray) (r : List Wd) (c : Nat) (oa : Option Addr) (on oc : Nat) (x : DA) (d : Dat) (zs : List Int) (hs : s.size ≤ 1000000) (hz : xpaddr (nums s) = some zs) (hE : LayE w0) (hw : RdW w0 wa ((s, false) :: r)) (hc : r.length + 1 ≤ c) (h63 : c ≤ 9223372036854775807) (h : RX w0 w wa (r.length + 1) c oa on oc x false d) :
    Calls Tryz.prog 117 #[.pointer (some ⟨w0.heap.size, 0, none⟩)] w (TkPost w0 (c - 1) oa on oc r ⟨d.ns, d.us, d.ts, zs⟩) := by
  have KB := Lib.hid (bare_ok w0 w wa s r c oa on oc x false d hw hc h63 h)
  have KP : Hid (∀ W, Below w0.heap.size w0 W → Calls Tryz.prog 32 #[.string s] W (AdPost (some zs) W)) := fun W hW => by
    have := paddr_any s W (by omega) (hE.below hW)
    rw [hz] at this
    exact this
  clear hE hw hz h
  go_enter Tryz.func117, Tryz.ntmps117
  go_wp2_with fail
  refine KB.out.mono ?_
  rintro e w1 ⟨wb, rfl, H1, H2⟩
  go_wp2_with fail
  refine (KP.out _ H2.out.bel).mono ?_
  rintro e w2 ⟨hP, -⟩
  obtain ⟨v, ys, rfl, H3⟩ := hP zs rfl
  obtain ⟨ao, rfl, hoa⟩ := H3.out.1.addr
  have HA : Hid (RX w0 w2 wb r.length (c - 1) oa on oc x false d) := H2.out.step H3.out.2.2
  have HO : Hid (BOwn (w0.heap.size + 1) w2 ⟨ao, zs.length, ys.length⟩ zs) := ⟨ys, H3.out.1.mono H2.out.blk.lt, H3.out.2.1⟩
  clear KB KP H2 H3 hoa hP
  have d6 : w2.cell? ⟨w0.heap.size, 6, none⟩ = some (.bool false) := HA.out.blk.cells.2.2.2.2.2.2
  have d5 : w2.cell? ⟨w0.heap.size, 5, none⟩ = some (.slice x.p4.a x.p4.n x.p4.c) := HA.out.blk.cells.2.2.2.2.2.1
  have f6 := HA.out.blk.fz 6
  have f5 := HA.out.blk.fz 5
  have HS : Hid (RX w0 (w2.setCell ⟨w0.heap.size, 6, none⟩ (.bool false)) wb r.length (c - 1) oa on oc x false d) := HA.out.bad false
  have HR := Lib.hid (HS.out.put4 ⟨ao, zs.length, ys.length⟩ zs (HO.out.keep (fun j hj _ => Below.heap_setCell _ _ _ j (by show j ≠ w0.heap.size; omega))))
  go_wp2_with fail
  go_end0
  exact ⟨_, wb, _, rfl, H1, HR⟩
/-- Bad from here on. -/
def BdPost (w0 : World) (oa : Option Addr) (on oc : Nat) (e : Ending) (w' : World) : Prop :=
  ∃ v wa n c x d, e = .returned v ∧ Hid (RX w0 w' wa n c oa on oc x true d)
set_option maxRecDepth 100000 in
set_option maxHeartbeats 4000000 in
theorem addr_no (w0 w : World) (wa : Option Addr) (s : ByteArray) (r : List Wd) (c : Nat) (oa : Option Addr) (on oc : Nat) (x : DA) (d : Dat) (hs : s.size ≤ 1000000) (hz : xpaddr (nums s) = none) (hE : LayE w0) (hw : RdW w0 wa ((s, false) :: r)) (hc : r.length + 1 ≤ c) (h63 : c ≤ 9223372036854775807) (h : RX w0 w wa (r.length + 1) c oa on oc x false d) :
    Calls Tryz.prog 117 #[.pointer (some ⟨w0.heap.size, 0, none⟩)] w (BdPost w0 oa on oc) := by
  have KB := Lib.hid (bare_ok w0 w wa s r c oa on oc x false d hw hc h63 h)
  have KP : Hid (∀ W, Below w0.heap.size w0 W → Calls Tryz.prog 32 #[.string s] W (AdPost none W)) := fun W hW => by
    have := paddr_any s W (by omega) (hE.below hW)
    rw [hz] at this
    exact this
  clear hE hw hz h
  go_enter Tryz.func117, Tryz.ntmps117
  go_wp2_with fail
  refine KB.out.mono ?_
  rintro e w1 ⟨wb, rfl, H1, H2⟩
  go_wp2_with fail
  refine (KP.out _ H2.out.bel).mono ?_
  rintro e w2 ⟨-, hP⟩
  obtain ⟨rfl, H3⟩ := hP rfl
  have HA : Hid (RX w0 w2 wb r.length (c - 1) oa on oc x false d) := H2.out.step H3.out
  have HO : Hid (BOwn (w0.heap.size + 1) w2 ⟨none, 0, 0⟩ []) := ⟨[], .inl ⟨rfl, rfl, rfl⟩, rfl⟩
  clear KB KP H2 H3 hP
  have d6 : w2.cell? ⟨w0.heap.size, 6, none⟩ = some (.bool false) := HA.out.blk.cells.2.2.2.2.2.2
  have d5 : w2.cell? ⟨w0.heap.size, 5, none⟩ = some (.slice x.p4.a x.p4.n x.p4.c) := HA.out.blk.cells.2.2.2.2.2.1
  have f6 := HA.out.blk.fz 6
  have f5 := HA.out.blk.fz 5
  have HS : Hid (RX w0 (w2.setCell ⟨w0.heap.size, 6, none⟩ (.bool true)) wb r.length (c - 1) oa on oc x true d) := HA.out.bad true
  have HR := Lib.hid (HS.out.put4 ⟨none, 0, 0⟩ [] (HO.out.keep (fun j hj _ => Below.heap_setCell _ _ _ j (by show j ≠ w0.heap.size; omega))))
  go_wp2_with fail
  go_end0
  exact ⟨_, wb, _, _, _, _, rfl, HR⟩
set_option maxRecDepth 100000 in
set_option maxHeartbeats 4000000 in
theorem tag_ok (w0 w : World) (wa : Option Addr) (s : ByteArray) (q : Bool) (r : List Wd) (c : Nat) (oa : Option Addr) (on oc : Nat) (x : DA) (d : Dat) (hs : s.size ≤ 1000000) (hns : d.ns = []) (hts : d.ts.length ≤ 1000) (hw : RdW w0 wa ((s, q) :: r)) (hc : r.length + 1 ≤ c) (h63 : c ≤ 9223372036854775807) (h : RX w0 w wa (r.length + 1) c oa on oc x false d) :
    Calls Tryz.prog 121 #[.pointer (some ⟨w0.heap.size, 0, none⟩)] w (TkPost w0 (c - 1) oa on oc r ⟨d.ns, d.us, d.ts ++ [s], d.raw⟩) := by
  have KN : Hid (∀ W, RX w0 W wa (r.length + 1) c oa on oc x false d → Calls Tryz.prog 137 #[.pointer (some ⟨w0.heap.size, 0, none⟩)] W (NxPost s r w0 c oa on oc x false d)) := fun W hW => next_ok w0 W wa s q r c oa on oc x false d hw hc h63 hW
  have HXd : Hid (RX w0 w.drew wa (r.length + 1) c oa on oc x false d) := h.step (Below.refl _ _).drew
  have d4 : w.cell? ⟨w0.heap.size, 4, none⟩ = some (.slice x.p3.a x.p3.n x.p3.c) := h.blk.cells.2.2.2.2.1
  have HNS : Hid (d.ns = [] ∧ d.ts.length ≤ 1000000) := ⟨hns, by omega⟩
  clear hw h hns hts
  go_enter Tryz.func121, Tryz.ntmps121
  go_region_law (first
    | (go_simp; go_at_call 137; refine (KN.out _ HXd.out).mono ?_; rintro e w1 ⟨wb, rfl, H1, H2⟩; have e4 : w1.cell? ⟨w0.heap.size, 4, none⟩ = some (.slice x.p3.a x.p3.n x.p3.c) := H2.out.blk.cells.2.2.2.2.1; have HS : Hid (RX w0 (w1.alloc (.cells #[.string s] 9)) wb r.length (c - 1) oa on oc x false d) := H2.out.step (new_below _ _); have i4 : (w1.alloc (.cells #[.string s] 9)).cell? ⟨w0.heap.size, 4, none⟩ = some (.slice x.p3.a x.p3.n x.p3.c) := HS.out.blk.cells.2.2.2.2.1)
    | (refine st_ts rfl _ _ rfl (w0.heap.size + 1) x.p3 d.ts rfl HS.out.own.2.2.1 ⟨w1.heap.size, 0, none⟩ rfl s (one_rdT w1 s) (by omega) HNS.out.2 HS.out.blk.lt ?_; intro t' w' hO hG; obtain ⟨og', hg1, hg2⟩ := hG.out; have HR := Lib.hid (HS.out.app3 HNS.out.1 hg1 hg2 t' _ hO.out); have hr := (HS.out.grown hg1 (fun j e => (hg2 j e).1)).1; have g4 := hr.cells.2.2.2.2.1; have gf := hr.fz 4))
  all_goals
    go_wp2_with fail
    go_end0
    exact ⟨_, wb, _, rfl, H1, HR⟩
end Go.Proofs.YtfkfjodfjgjbkaaGreatDoor
/- The reader of words, by types. -/
namespace Go.Proofs.YtfkfjodfjgjbkaaGreatDoor
open Go.ChangeShapes Go.WideShapes Go.ChangeAt Go.RowKit
set_option linter.unusedVariables false
set_option linter.unusedSimpArgs false

abbrev nW (n : List ByteArray) : Wd := ((ntext n).1, false)
abbrev uW (u : Nat) : Wd := (xnw u, false)
abbrev tW (s : ByteArray) : Wd := (lb (xq (nums s)), true)
theorem drop_map {α : Type} (f : α → Wd) (l : List α) (tl : List Wd) (k : Nat) (h : k < l.length) : (l.map f ++ tl).drop k = f l[k] :: (l.map f ++ tl).drop (k + 1) := by
  rw [List.drop_eq_getElem_cons (by simp; omega), List.getElem_append_left (by simpa using h), List.getElem_map]
theorem nI (og : List ByteArray) (hg : nck og = 0) (ns : List (List ByteArray)) (hn : ∀ n ∈ ns, nck n = 0) (tl : List Wd) (k : Nat) (h : k < ns.length) :
    ∃ s r nm, (ns.map nW ++ tl).drop k = (s, false) :: r ∧ s.size ≤ 1000000000 ∧ nrel s og = (nm, 0) ∧ ns[k]? = some nm := by
  have hk := hn _ (List.getElem_mem h)
  exact ⟨_, _, ns[k], drop_map nW ns tl k h, by have := ntext_size hk; omega, rel_text ns[k] og hk hg, List.getElem?_eq_getElem h⟩
theorem uI (us : List Nat) (hn : ∀ n ∈ us, n < 4294967296) (tl : List Wd) (k : Nat) (h : k < us.length) :
    ∃ s r nm, (us.map uW ++ tl).drop k = (s, false) :: r ∧ s.size ≤ 1000000000 ∧ xnum (nums s) (2 ^ 32) = some nm ∧ us[k]? = some nm := by
  have hk := hn _ (List.getElem_mem h)
  refine ⟨_, _, us[k], drop_map uW us tl k h, ?_, ?_, List.getElem?_eq_getElem h⟩
  · have := xdec_len10 us[k] hk
    rw [← nums_len, xnw_nums]; omega
  · rw [xnw_nums]; exact xnum_dec _ _ (by have : (2 : Nat) ^ 32 = 4294967296 := (by decide); omega)
theorem tI (ts : List ByteArray) (hn : ∀ n ∈ ts, n.size ≤ 200000000) (tl : List Wd) (k : Nat) (h : k < ts.length) :
    ∃ s q r nm, (ts.map tW ++ tl).drop k = (s, q) :: r ∧ s.size ≤ 1000000000 ∧ xstrR (nums s) = (nm, 0) ∧ nm.size ≤ 1000000000 ∧ ts[k]? = some nm := by
  have hk := hn _ (List.getElem_mem h)
  have e : nums (lb (xq (nums ts[k]))) = xq (nums ts[k]) := nums_lb _ (xq_by _ (nums_all _))
  refine ⟨_, _, _, ts[k], drop_map tW ts tl k h, ?_, ?_, by omega, List.getElem?_eq_getElem h⟩
  · have := xq_len (nums ts[k])
    rw [nums_len] at this
    rw [← nums_len, e]; omega
  · rw [e, xstrR_some (xstr_q _ (nums_all _)), lb_nums]
/-- Numbers, then names. -/
theorem mx_words (us : List Nat) (ns : List (List ByteArray)) : (us.map uW ++ (ns.map nW ++ [])).drop us.length = ns.map nW ++ [] := by
  rw [List.drop_left' (by simp)]
theorem soa_words (ns : List (List ByteArray)) (us : List Nat) : (ns.map nW ++ (us.map uW ++ [])).drop ns.length = us.map uW ++ [] := by
  rw [List.drop_left' (by simp)]
set_option maxRecDepth 100000 in
set_option maxHeartbeats 4000000 in
theorem readMX (t nu : Nat) (ht : t = 15 ∧ nu = 1 ∨ t = 33 ∧ nu = 3) (w0 : World) (wa : Option Addr) (us : List Nat) (ns : List (List ByteArray)) (c : Nat) (oa : Option Addr) (on oc : Nat) (og : List ByteArray) (hu : us.length = nu) (hn : ns.length = 1) (hub : ∀ n ∈ us, n < 4294967296) (hnb : ∀ n ∈ ns, nck n = 0) (hg : nck og = 0)
    (hw : RdW w0 wa (us.map uW ++ (ns.map nW ++ []))) (hc : (us.map uW ++ (ns.map nW ++ [])).length ≤ c) (h63 : c ≤ 9223372036854775807) (hog : Nm w0 oa on og) :
    RdAll t w0 wa (us.map uW ++ (ns.map nW ++ [])) c oa on oc ⟨ns, us, [], []⟩ := by
  intro w h
  have hcl : nu + 1 ≤ c := by simp at hc; omega
  have K1 := Lib.hid (nums_ok w0 w wa _ nu c oa on oc nilDA ⟨[], [], [], []⟩ us hu (by simp; omega) (fun k hk => uI us hub (ns.map nW ++ []) k (by omega)) hw hc h63 h)
  have eK : List.drop nu (us.map uW ++ (ns.map nW ++ [])) = ns.map nW ++ [] := by rw [← hu]; exact mx_words us ns
  rw [eK] at K1
  have K2 : Hid (∀ W wb x, RdW w0 wb (ns.map nW ++ []) → RX w0 W wb (ns.map nW ++ []).length (c - nu) oa on oc x false ⟨[], [] ++ us, [], []⟩ → Calls Tryz.prog 118 #[.pointer (some ⟨w0.heap.size, 0, none⟩), .int .i64 1] W (TkPost w0 (c - nu - 1) oa on oc [] ⟨[] ++ ns, [] ++ us, [], []⟩)) := fun W wb x h1 h2 => by
    have := names_ok w0 W wb (ns.map nW ++ []) 1 (c - nu) oa on oc og x ⟨[], [] ++ us, [], []⟩ ns hn (by simp) (fun k hk => nI og hg ns hnb [] k (by omega)) h1 (by simp; omega) (by omega) hog h2
    have e1 : List.drop 1 (ns.map nW ++ []) = [] := by rw [← hn]; simp
    rw [e1] at this
    exact this
  clear hw hc hog h hub hnb hg
  rcases ht with ⟨rfl, rfl⟩ | ⟨rfl, rfl⟩
  all_goals
    go_enter Tryz.func89, Tryz.ntmps89
    go_wp2_with fail
    refine K1.out.mono ?_
    rintro e w' ⟨v, wa', x', rfl, H1, H2⟩
    go_wp2_with fail
    refine (K2.out _ _ _ H1.out H2.out).mono ?_
    rintro e w2 ⟨v2, wa2, x2, rfl, H3, H4⟩
    go_wp2_with fail
    go_end0
    exact ⟨_, _, wa2, x2, rfl, H3, H4⟩
set_option maxRecDepth 100000 in
set_option maxHeartbeats 4000000 in
theorem readSOA (w0 : World) (wa : Option Addr) (us : List Nat) (ns : List (List ByteArray)) (c : Nat) (oa : Option Addr) (on oc : Nat) (og : List ByteArray) (hu : us.length = 5) (hn : ns.length = 2) (hub : ∀ n ∈ us, n < 4294967296) (hnb : ∀ n ∈ ns, nck n = 0) (hg : nck og = 0)
    (hw : RdW w0 wa (ns.map nW ++ (us.map uW ++ []))) (hc : (ns.map nW ++ (us.map uW ++ [])).length ≤ c) (h63 : c ≤ 9223372036854775807) (hog : Nm w0 oa on og) :
    RdAll 6 w0 wa (ns.map nW ++ (us.map uW ++ [])) c oa on oc ⟨ns, us, [], []⟩ := by
  intro w h
  have hcl : 7 ≤ c := by simp at hc; omega
  have K1 := Lib.hid (names_ok w0 w wa _ 2 c oa on oc og nilDA ⟨[], [], [], []⟩ ns hn (by simp) (fun k hk => nI og hg ns hnb (us.map uW ++ []) k (by omega)) hw hc h63 hog h)
  have eK : List.drop 2 (ns.map nW ++ (us.map uW ++ [])) = us.map uW ++ [] := by rw [← hn]; exact soa_words ns us
  rw [eK] at K1
  have K2 : Hid (∀ W wb x, RdW w0 wb (us.map uW ++ []) → RX w0 W wb (us.map uW ++ []).length (c - 2) oa on oc x false ⟨[] ++ ns, [], [], []⟩ → Calls Tryz.prog 119 #[.pointer (some ⟨w0.heap.size, 0, none⟩), .int .i64 5] W (TkPost w0 (c - 2 - 5) oa on oc [] ⟨[] ++ ns, [] ++ us, [], []⟩)) := fun W wb x h1 h2 => by
    have := nums_ok w0 W wb (us.map uW ++ []) 5 (c - 2) oa on oc x ⟨[] ++ ns, [], [], []⟩ us hu (by simp) (fun k hk => uI us hub [] k (by omega)) h1 (by simp; omega) (by omega) h2
    have e1 : List.drop 5 (us.map uW ++ []) = [] := by rw [← hu]; simp
    rw [e1] at this
    exact this
  clear hw hc hog h hub hnb hg
  go_enter Tryz.func89, Tryz.ntmps89
  go_wp2_with fail
  refine K1.out.mono ?_
  rintro e w' ⟨v, wa', x', rfl, H1, H2⟩
  go_wp2_with fail
  refine (K2.out _ _ _ H1.out H2.out).mono ?_
  rintro e w2 ⟨v2, wa2, x2, rfl, H3, H4⟩
  go_wp2_with fail
  go_end0
  exact ⟨_, _, wa2, x2, rfl, H3, H4⟩
set_option maxRecDepth 100000 in
set_option maxHeartbeats 4000000 in
theorem readAD (t : Nat) (ht : t = 1 ∨ t = 28) (w0 : World) (wa : Option Addr) (s : ByteArray) (c : Nat) (oa : Option Addr) (on oc : Nat) (zs : List Int) (hs : s.size ≤ 1000000) (hz : xpaddr (nums s) = some zs) (hE : LayE w0) (hw : RdW w0 wa [(s, false)]) (hc : 1 ≤ c) (h63 : c ≤ 9223372036854775807) :
    RdAll t w0 wa [(s, false)] c oa on oc ⟨[], [], [], zs⟩ := by
  intro w h
  have K := Lib.hid (addr_ok w0 w wa s [] c oa on oc nilDA ⟨[], [], [], []⟩ zs hs hz hE hw hc h63 h)
  clear hE hw h hz
  rcases ht with rfl | rfl
  all_goals
    go_enter Tryz.func89, Tryz.ntmps89
    go_wp2_with fail
    refine K.out.mono ?_
    rintro e w' ⟨v, wa', x', rfl, H1, H2⟩
    go_wp2_with fail
    go_end0
    exact ⟨c - 1, _, wa', x', rfl, H1, H2⟩
set_option maxRecDepth 100000 in
set_option maxHeartbeats 4000000 in
theorem readTXT (w0 : World) (wa : Option Addr) (ts : List ByteArray) (c : Nat) (oa : Option Addr) (on oc : Nat) (ht : ts ≠ []) (htl : ts.length ≤ 1000000) (hts : ∀ n ∈ ts, n.size ≤ 200000000) (hE : LayE w0) (hw : RdW w0 wa (ts.map tW ++ [])) (hc : (ts.map tW ++ []).length ≤ c) (h63 : c ≤ 9223372036854775807) :
    RdAll 16 w0 wa (ts.map tW ++ []) c oa on oc ⟨[], [], ts, []⟩ := by
  intro w h
  have K := Lib.hid (texts_ok w0 w wa (ts.map tW ++ []) ts.length c oa on oc nilDA ⟨[], [], [], []⟩ ts rfl hE rfl (by simpa using htl) (fun k hk => tI ts hts [] k hk) hw hc h63 h)
  have eK : List.drop ts.length (ts.map tW ++ []) = [] := by simp
  rw [eK] at K
  have d0 := h.blk.cells.1
  have e0 : (ts.map tW ++ []).length = ts.length := by simp
  rw [e0] at d0
  have h1 : 1 ≤ ts.length := by cases ts with | nil => exact absurd rfl ht | cons a l => simp
  generalize hN : ts.length = N at *
  have hmax : max (1 : Int) (N : Int) = (N : Int) := by omega
  clear hE hw h hts e0
  go_enter Tryz.func89, Tryz.ntmps89
  go_wp2_with fail
  refine K.out.mono ?_
  rintro e w' ⟨v, wa', x', rfl, H1, H2⟩
  go_wp2_with fail
  go_end0
  exact ⟨c - N, _, wa', x', rfl, H1, H2⟩
set_option maxRecDepth 100000 in
set_option maxHeartbeats 4000000 in
theorem readCAA (w0 : World) (wa : Option Addr) (u : Nat) (a b : ByteArray) (c : Nat) (oa : Option Addr) (on oc : Nat) (hu : u < 4294967296) (ha : a.size ≤ 1000000) (hb : b.size ≤ 200000000) (hE : LayE w0) (hw : RdW w0 wa [uW u, (a, false), tW b]) (hc : 3 ≤ c) (h63 : c ≤ 9223372036854775807) :
    RdAll 257 w0 wa [uW u, (a, false), tW b] c oa on oc ⟨[], [u], [a, b], []⟩ := by
  intro w h
  have K1 : Hid (Calls Tryz.prog 119 #[.pointer (some ⟨w0.heap.size, 0, none⟩), .int .i64 1] w (TkPost w0 (c - 1) oa on oc [(a, false), tW b] ⟨[], [u], [], []⟩)) :=
    nums_ok w0 w wa [uW u, (a, false), tW b] 1 c oa on oc nilDA ⟨[], [], [], []⟩ [u] rfl (by simp) (fun k hk => uI [u] (by intro n hn; simp at hn; omega) [(a, false), tW b] k hk) hw hc h63 h
  have K2 : Hid (∀ W wb x, RdW w0 wb [(a, false), tW b] → RX w0 W wb 2 (c - 1) oa on oc x false ⟨[], [u], [], []⟩ → Calls Tryz.prog 121 #[.pointer (some ⟨w0.heap.size, 0, none⟩)] W (TkPost w0 (c - 1 - 1) oa on oc [tW b] ⟨[], [u], [a], []⟩)) := fun W wb x h1 h2 =>
    tag_ok w0 W wb a false [tW b] (c - 1) oa on oc x ⟨[], [u], [], []⟩ ha rfl (by simp) h1 (by simp; omega) (by omega) h2
  have K3 : Hid (∀ W wb x, RdW w0 wb [tW b] → RX w0 W wb 1 (c - 1 - 1) oa on oc x false ⟨[], [u], [a], []⟩ → Calls Tryz.prog 120 #[.pointer (some ⟨w0.heap.size, 0, none⟩), .int .i64 1] W (TkPost w0 (c - 1 - 1 - 1) oa on oc [] ⟨[], [u], [a, b], []⟩)) := fun W wb x h1 h2 =>
    texts_ok w0 W wb [tW b] 1 (c - 1 - 1) oa on oc x ⟨[], [u], [a], []⟩ [b] rfl hE rfl (by simp) (fun k hk => tI [b] (by intro n hn; simp at hn; subst hn; exact hb) [] k hk) h1 (by simp; omega) (by omega) h2
  clear hw h hE
  go_enter Tryz.func89, Tryz.ntmps89
  go_wp2_with fail
  refine K1.out.mono ?_
  rintro e w' ⟨v, wa', x', rfl, H1, H2⟩
  go_wp2_with fail
  refine (K2.out _ _ _ H1.out H2.out).mono ?_
  rintro e w2 ⟨v2, wa2, x2, rfl, H3, H4⟩
  go_wp2_with fail
  refine (K3.out _ _ _ H3.out H4.out).mono ?_
  rintro e w3 ⟨v3, wa3, x3, rfl, H5, H6⟩
  go_wp2_with fail
  go_end0
  exact ⟨_, _, wa3, x3, rfl, H5, H6⟩
end Go.Proofs.YtfkfjodfjgjbkaaGreatDoor
/- Words that are no data: the reader's bad ends. -/
namespace Go.Proofs.YtfkfjodfjgjbkaaGreatDoor
open Go.ChangeShapes Go.WideShapes Go.ChangeAt Go.RowKit
set_option linter.unusedVariables false
set_option linter.unusedSimpArgs false

/-- How a type's words are refused. -/
def RdNo (t : Nat) (w0 : World) (wa : Option Addr) (ws : List Wd) (c : Nat) (oa : Option Addr) (on oc : Nat) : Prop :=
  ∀ w, RX w0 w wa ws.length c oa on oc nilDA false ⟨[], [], [], []⟩ → Calls Tryz.prog 89 #[.pointer (some ⟨w0.heap.size, 0, none⟩), .int .u16 (t : Int)] w (BdPost w0 oa on oc)
set_option maxRecDepth 100000 in
set_option maxHeartbeats 4000000 in
theorem read_no (t : Nat) (a : Option Addr) (ws : List Wd) (c : Nat) (oa : Option Addr) (on oc : Nat) (w : World) (hne : ws.head? ≠ some (⟨#[92, 35]⟩, false)) (hw : RdW w a ws)
    (h : ∀ w0, Below w.heap.size w w0 → RdNo t w0 a ws c oa on oc) :
    Calls Tryz.prog 61 #[.int .u16 (t : Int), .slice a ws.length c, .slice oa on oc] w fun e w' => ∃ x : DA, e = .returned (.tuple #[.agg #[.slice x.p1.a x.p1.n x.p1.c, .slice x.p2.a x.p2.n x.p2.c, .slice x.p3.a x.p3.n x.p3.c, .slice x.p4.a x.p4.n x.p4.c], .bool false]) ∧ Hid (Below w.heap.size w w') := by
  have HZ : Hid (Below w.heap.size w (w.alloc (.cells #[.slice none 0 0, .slice none 0 0, .slice none 0 0, .slice none 0 0] 29)) ∧ DBlk (w.alloc (.cells #[.slice none 0 0, .slice none 0 0, .slice none 0 0, .slice none 0 0] 29)) w.heap.size nilDA) := ⟨new_below _ _, heap_alloc_new _ _⟩
  have hsz0 : (w.alloc (.cells #[.slice none 0 0, .slice none 0 0, .slice none 0 0, .slice none 0 0] 29)).heap.size = w.heap.size + 1 := by simp
  have K := Lib.hid (h _ HZ.out.1 _ (start_rx (w.alloc (.cells #[.slice none 0 0, .slice none 0 0, .slice none 0 0, .slice none 0 0] 29)) a ws.length c oa on oc))
  rw [hsz0] at K
  clear h
  have hcase : ws = [] ∨ ∃ s q r b o, ws = (s, q) :: r ∧ a = some ⟨b, o, none⟩ ∧ b < w.heap.size ∧ w.cell? ⟨b, o, none⟩ = some (.string s) ∧ w.cell? ⟨b, o + 1, none⟩ = some (.bool q) ∧ ((s.toList = [92, 35] ∧ q = true) ∨ (s.toList == [92, 35]) = false) := by
    cases ws with
    | nil => exact .inl rfl
    | cons y r =>
      obtain ⟨s, q⟩ := y
      obtain ⟨b, o, e, hb, c1, c2, hrr⟩ := hw.head
      refine .inr ⟨s, q, r, b, o, rfl, e, hb, c1, c2, ?_⟩
      by_cases hq : s.toList = [92, 35]
      · refine .inl ⟨hq, ?_⟩
        cases q with
        | true => rfl
        | false =>
          exfalso
          apply hne
          have : s = ⟨#[92, 35]⟩ := by
            have h2 : s.data.toList = [92, 35] := by rw [← Lib.toList_data]; exact hq
            cases s with | mk da => simp at h2; rw [show da = #[92, 35] from by rw [← Array.toArray_toList (xs := da), h2]]
          rw [this]; rfl
      · right; simpa using hq
  clear hne hw
  generalize hlen : ws.length = len at K ⊢
  rcases hcase with rfl | ⟨s, q, r, b, o, rfl, rfl, hbs, c1, c2, hs | hs⟩
  · simp at hlen
    subst hlen
    go_enter Tryz.func61, Tryz.ntmps61
    go_wp2_with fail
    refine K.out.mono ?_
    rintro e w1 ⟨v, wa, n', c', x, d, rfl, H2⟩
    obtain ⟨⟨d0, d2, d3, d4, d5, d6⟩, k1, k2, k3⟩ := rx_facts H2.out
    have HK : Hid (DBlk w1 w.heap.size nilDA ∧ Below w.heap.size w w1 ∧ DOwn (w.heap.size + 2) w1 x d) := ⟨k1, k2, k3⟩
    have er0 := k1.box.1
    have er1 := k1.box.2.1
    have er2 := k1.box.2.2.1
    have er3 := k1.box.2.2.2.1
    have ez0 := k1.fz 0
    have ez1 := k1.fz 1
    have ez2 := k1.fz 2
    have ez3 := k1.fz 3
    simp only at er0 er1 er2 er3
    have hne1 : ¬ w.heap.size = w.heap.size + 1 := by omega
    clear k1 k2 k3 H2 K HZ hsz0
    go_wp2_with fail
    first | (go_region_law (fail)) | fail
    all_goals
      go_wp2_with fail
      have HX : Hid (DBlk (((((w1.setCell ⟨w.heap.size, 0, none⟩ (.slice x.p1.a x.p1.n x.p1.c)).setCell ⟨w.heap.size, 1, none⟩ (.slice x.p2.a x.p2.n x.p2.c)).setCell ⟨w.heap.size, 2, none⟩ (.slice x.p3.a x.p3.n x.p3.c)).setCell ⟨w.heap.size, 3, none⟩ (.slice x.p4.a x.p4.n x.p4.c)).drew) w.heap.size x ∧ DOwn w.heap.size (((((w1.setCell ⟨w.heap.size, 0, none⟩ (.slice x.p1.a x.p1.n x.p1.c)).setCell ⟨w.heap.size, 1, none⟩ (.slice x.p2.a x.p2.n x.p2.c)).setCell ⟨w.heap.size, 2, none⟩ (.slice x.p3.a x.p3.n x.p3.c)).setCell ⟨w.heap.size, 3, none⟩ (.slice x.p4.a x.p4.n x.p4.c)).drew) x d ∧ Below w.heap.size w (((((w1.setCell ⟨w.heap.size, 0, none⟩ (.slice x.p1.a x.p1.n x.p1.c)).setCell ⟨w.heap.size, 1, none⟩ (.slice x.p2.a x.p2.n x.p2.c)).setCell ⟨w.heap.size, 2, none⟩ (.slice x.p3.a x.p3.n x.p3.c)).setCell ⟨w.heap.size, 3, none⟩ (.slice x.p4.a x.p4.n x.p4.c)).drew)) :=
        ⟨HK.out.1.four x, (HK.out.2.2.ret4 (by omega) (by omega)).stays (Below.refl _ _).drew, (ret4 HK.out.1 HK.out.2.1 (Nat.le_refl _) x).2.drew⟩
      generalize (((((w1.setCell ⟨w.heap.size, 0, none⟩ (.slice x.p1.a x.p1.n x.p1.c)).setCell ⟨w.heap.size, 1, none⟩ (.slice x.p2.a x.p2.n x.p2.c)).setCell ⟨w.heap.size, 2, none⟩ (.slice x.p3.a x.p3.n x.p3.c)).setCell ⟨w.heap.size, 3, none⟩ (.slice x.p4.a x.p4.n x.p4.c)).drew) = W9 at *
      have z0 := HX.out.1.box.1
      have z1 := HX.out.1.box.2.1
      have z2 := HX.out.1.box.2.2.1
      have z3 := HX.out.1.box.2.2.2.1
      exact bodyPost_ret (v := .tuple #[.agg #[.slice x.p1.a x.p1.n x.p1.c, .slice x.p2.a x.p2.n x.p2.c, .slice x.p3.a x.p3.n x.p3.c, .slice x.p4.a x.p4.n x.p4.c], .bool false]) (by simp [results, Tryz.results61, go_sem, z0, z1, z2, z3]) rfl ⟨x, rfl, HX.out.2.2⟩
  · obtain ⟨hs, rfl⟩ := hs
    simp at hlen
    have hl0 : (0 : Int) < (len : Int) := by omega
    go_enter Tryz.func61, Tryz.ntmps61
    go_wp2_with fail
    refine K.out.mono ?_
    rintro e w1 ⟨v, wa, n', c', x, d, rfl, H2⟩
    obtain ⟨⟨d0, d2, d3, d4, d5, d6⟩, k1, k2, k3⟩ := rx_facts H2.out
    have HK : Hid (DBlk w1 w.heap.size nilDA ∧ Below w.heap.size w w1 ∧ DOwn (w.heap.size + 2) w1 x d) := ⟨k1, k2, k3⟩
    have er0 := k1.box.1
    have er1 := k1.box.2.1
    have er2 := k1.box.2.2.1
    have er3 := k1.box.2.2.2.1
    have ez0 := k1.fz 0
    have ez1 := k1.fz 1
    have ez2 := k1.fz 2
    have ez3 := k1.fz 3
    simp only at er0 er1 er2 er3
    have hne1 : ¬ w.heap.size = w.heap.size + 1 := by omega
    clear k1 k2 k3 H2 K HZ hsz0
    go_wp2_with fail
    first | (go_region_law (fail)) | fail
    all_goals
      go_wp2_with fail
      have HX : Hid (DBlk (((((w1.setCell ⟨w.heap.size, 0, none⟩ (.slice x.p1.a x.p1.n x.p1.c)).setCell ⟨w.heap.size, 1, none⟩ (.slice x.p2.a x.p2.n x.p2.c)).setCell ⟨w.heap.size, 2, none⟩ (.slice x.p3.a x.p3.n x.p3.c)).setCell ⟨w.heap.size, 3, none⟩ (.slice x.p4.a x.p4.n x.p4.c)).drew) w.heap.size x ∧ DOwn w.heap.size (((((w1.setCell ⟨w.heap.size, 0, none⟩ (.slice x.p1.a x.p1.n x.p1.c)).setCell ⟨w.heap.size, 1, none⟩ (.slice x.p2.a x.p2.n x.p2.c)).setCell ⟨w.heap.size, 2, none⟩ (.slice x.p3.a x.p3.n x.p3.c)).setCell ⟨w.heap.size, 3, none⟩ (.slice x.p4.a x.p4.n x.p4.c)).drew) x d ∧ Below w.heap.size w (((((w1.setCell ⟨w.heap.size, 0, none⟩ (.slice x.p1.a x.p1.n x.p1.c)).setCell ⟨w.heap.size, 1, none⟩ (.slice x.p2.a x.p2.n x.p2.c)).setCell ⟨w.heap.size, 2, none⟩ (.slice x.p3.a x.p3.n x.p3.c)).setCell ⟨w.heap.size, 3, none⟩ (.slice x.p4.a x.p4.n x.p4.c)).drew)) :=
        ⟨HK.out.1.four x, (HK.out.2.2.ret4 (by omega) (by omega)).stays (Below.refl _ _).drew, (ret4 HK.out.1 HK.out.2.1 (Nat.le_refl _) x).2.drew⟩
      generalize (((((w1.setCell ⟨w.heap.size, 0, none⟩ (.slice x.p1.a x.p1.n x.p1.c)).setCell ⟨w.heap.size, 1, none⟩ (.slice x.p2.a x.p2.n x.p2.c)).setCell ⟨w.heap.size, 2, none⟩ (.slice x.p3.a x.p3.n x.p3.c)).setCell ⟨w.heap.size, 3, none⟩ (.slice x.p4.a x.p4.n x.p4.c)).drew) = W9 at *
      have z0 := HX.out.1.box.1
      have z1 := HX.out.1.box.2.1
      have z2 := HX.out.1.box.2.2.1
      have z3 := HX.out.1.box.2.2.2.1
      exact bodyPost_ret (v := .tuple #[.agg #[.slice x.p1.a x.p1.n x.p1.c, .slice x.p2.a x.p2.n x.p2.c, .slice x.p3.a x.p3.n x.p3.c, .slice x.p4.a x.p4.n x.p4.c], .bool false]) (by simp [results, Tryz.results61, go_sem, z0, z1, z2, z3]) rfl ⟨x, rfl, HX.out.2.2⟩
  · simp at hlen
    have hl0 : (0 : Int) < (len : Int) := by omega
    go_enter Tryz.func61, Tryz.ntmps61
    go_wp2_with fail
    refine K.out.mono ?_
    rintro e w1 ⟨v, wa, n', c', x, d, rfl, H2⟩
    obtain ⟨⟨d0, d2, d3, d4, d5, d6⟩, k1, k2, k3⟩ := rx_facts H2.out
    have HK : Hid (DBlk w1 w.heap.size nilDA ∧ Below w.heap.size w w1 ∧ DOwn (w.heap.size + 2) w1 x d) := ⟨k1, k2, k3⟩
    have er0 := k1.box.1
    have er1 := k1.box.2.1
    have er2 := k1.box.2.2.1
    have er3 := k1.box.2.2.2.1
    have ez0 := k1.fz 0
    have ez1 := k1.fz 1
    have ez2 := k1.fz 2
    have ez3 := k1.fz 3
    simp only at er0 er1 er2 er3
    have hne1 : ¬ w.heap.size = w.heap.size + 1 := by omega
    clear k1 k2 k3 H2 K HZ hsz0
    go_wp2_with fail
    first | (go_region_law (fail)) | fail
    all_goals
      go_wp2_with fail
      have HX : Hid (DBlk (((((w1.setCell ⟨w.heap.size, 0, none⟩ (.slice x.p1.a x.p1.n x.p1.c)).setCell ⟨w.heap.size, 1, none⟩ (.slice x.p2.a x.p2.n x.p2.c)).setCell ⟨w.heap.size, 2, none⟩ (.slice x.p3.a x.p3.n x.p3.c)).setCell ⟨w.heap.size, 3, none⟩ (.slice x.p4.a x.p4.n x.p4.c)).drew) w.heap.size x ∧ DOwn w.heap.size (((((w1.setCell ⟨w.heap.size, 0, none⟩ (.slice x.p1.a x.p1.n x.p1.c)).setCell ⟨w.heap.size, 1, none⟩ (.slice x.p2.a x.p2.n x.p2.c)).setCell ⟨w.heap.size, 2, none⟩ (.slice x.p3.a x.p3.n x.p3.c)).setCell ⟨w.heap.size, 3, none⟩ (.slice x.p4.a x.p4.n x.p4.c)).drew) x d ∧ Below w.heap.size w (((((w1.setCell ⟨w.heap.size, 0, none⟩ (.slice x.p1.a x.p1.n x.p1.c)).setCell ⟨w.heap.size, 1, none⟩ (.slice x.p2.a x.p2.n x.p2.c)).setCell ⟨w.heap.size, 2, none⟩ (.slice x.p3.a x.p3.n x.p3.c)).setCell ⟨w.heap.size, 3, none⟩ (.slice x.p4.a x.p4.n x.p4.c)).drew)) :=
        ⟨HK.out.1.four x, (HK.out.2.2.ret4 (by omega) (by omega)).stays (Below.refl _ _).drew, (ret4 HK.out.1 HK.out.2.1 (Nat.le_refl _) x).2.drew⟩
      generalize (((((w1.setCell ⟨w.heap.size, 0, none⟩ (.slice x.p1.a x.p1.n x.p1.c)).setCell ⟨w.heap.size, 1, none⟩ (.slice x.p2.a x.p2.n x.p2.c)).setCell ⟨w.heap.size, 2, none⟩ (.slice x.p3.a x.p3.n x.p3.c)).setCell ⟨w.heap.size, 3, none⟩ (.slice x.p4.a x.p4.n x.p4.c)).drew) = W9 at *
      have z0 := HX.out.1.box.1
      have z1 := HX.out.1.box.2.1
      have z2 := HX.out.1.box.2.2.1
      have z3 := HX.out.1.box.2.2.2.1
      exact bodyPost_ret (v := .tuple #[.agg #[.slice x.p1.a x.p1.n x.p1.c, .slice x.p2.a x.p2.n x.p2.c, .slice x.p3.a x.p3.n x.p3.c, .slice x.p4.a x.p4.n x.p4.c], .bool false]) (by simp [results, Tryz.results61, go_sem, z0, z1, z2, z3]) rfl ⟨x, rfl, HX.out.2.2⟩
set_option maxRecDepth 100000 in
set_option maxHeartbeats 4000000 in
theorem readA_no (w0 : World) (wa : Option Addr) (s : ByteArray) (c : Nat) (oa : Option Addr) (on oc : Nat) (hs : s.size ≤ 1000000) (hz : xpaddr (nums s) = none) (hE : LayE w0) (hw : RdW w0 wa [(s, false)]) (hc : 1 ≤ c) (h63 : c ≤ 9223372036854775807) :
    RdNo 1 w0 wa [(s, false)] c oa on oc := by
  intro w h
  have K := Lib.hid (addr_no w0 w wa s [] c oa on oc nilDA ⟨[], [], [], []⟩ hs hz hE hw hc h63 h)
  clear hE hw h hz
  go_enter Tryz.func89, Tryz.ntmps89
  go_wp2_with fail
  refine K.out.mono ?_
  rintro e w' ⟨v, wa', n', c', x', d', rfl, H2⟩
  go_wp2_with fail
  go_end0
  exact ⟨_, wa', n', c', x', d', rfl, H2⟩
set_option maxRecDepth 100000 in
set_option maxHeartbeats 4000000 in
theorem read99_no (w0 : World) (wa : Option Addr) (ws : List Wd) (c : Nat) (oa : Option Addr) (on oc : Nat) : RdNo 99 w0 wa ws c oa on oc := by
  intro w h
  have HX := Lib.hid h
  have f6 := h.blk.fz 6
  have d6 := h.blk.cells.2.2.2.2.2.2
  clear h
  go_enter Tryz.func89, Tryz.ntmps89
  go_wp2_with fail
  go_end0
  exact ⟨_, _, _, _, _, _, rfl, HX.out.bad true⟩
set_option maxRecDepth 100000 in
set_option maxHeartbeats 4000000 in
theorem next_none (w0 w : World) (wa : Option Addr) (c : Nat) (oa : Option Addr) (on oc : Nat) (x : DA) (bad : Bool) (d : Dat) (h : RX w0 w wa 0 c oa on oc x bad d) :
    Calls Tryz.prog 137 #[.pointer (some ⟨w0.heap.size, 0, none⟩)] w fun e w' => e = .returned (.string ⟨#[]⟩) ∧ Hid (RX w0 w' wa 0 c oa on oc x true d) := by
  have HX := Lib.hid h
  have d0 := h.blk.cells.1
  have f6 := h.blk.fz 6
  have d6 := h.blk.cells.2.2.2.2.2.2
  clear h
  go_enter Tryz.func137, Tryz.ntmps137
  go_wp2_with fail
  go_ret
  exact ⟨rfl, HX.out.bad true⟩
theorem no_str : xstrR (nums ⟨#[]⟩) = (⟨#[]⟩, 0) := by decide +kernel
set_option maxRecDepth 100000 in
set_option maxHeartbeats 4000000 in
theorem texts_none (w0 w : World) (wa : Option Addr) (c : Nat) (oa : Option Addr) (on oc : Nat) (hE : LayE w0) (h : RX w0 w wa 0 c oa on oc nilDA false ⟨[], [], [], []⟩) :
    Calls Tryz.prog 120 #[.pointer (some ⟨w0.heap.size, 0, none⟩), .int .i64 1] w (BdPost w0 oa on oc) := by
  have H0 : Hid (RX w0 w wa 0 c oa on oc nilDA false ⟨[], [], [], []⟩) := h
  have HE : Hid (LayE w0) := hE
  clear h hE
  go_enter Tryz.func120, Tryz.ntmps120
  go_wp2_with fail
  go_loopw [7] (fun y wr => (y = .int .i64 0 ∧ Hid (RX w0 wr wa 0 c oa on oc nilDA false ⟨[], [], [], []⟩)) ∨ (y = .int .i64 1 ∧ Hid (∃ x d, RX w0 wr wa 0 c oa on oc x true d))) (fun y _ => 1 - (intOf y).toNat)
  case atStart => exact .inl ⟨rfl, H0.out⟩
  case round =>
    rcases hrel with ⟨rfl, HX⟩ | ⟨rfl, HX⟩
    · have KR : Hid (∀ W, Below w0.heap.size w0 W → Calls Tryz.prog 31 #[.string ⟨#[]⟩] W fun e w' => e = .returned (.tuple #[.string ⟨#[]⟩, .int .i64 0]) ∧ Hid (Below W.heap.size W w')) := fun W hW => by
        have := string_any ⟨#[]⟩ W (by decide) (HE.out.below hW)
        rw [no_str] at this
        exact this
      go_wp2_with fail
      refine (next_none w0 _ wa c oa on oc nilDA false _ HX.out).mono ?_
      rintro e w1 ⟨rfl, H2⟩
      go_wp2_with fail
      refine (KR.out _ H2.out.bel).mono ?_
      rintro e w2 ⟨rfl, H3⟩
      have HA : Hid (RX w0 w2 wa 0 c oa on oc nilDA true ⟨[], [], [], []⟩) := H2.out.step H3.out
      clear KR HX H2 H3
      have d6 : w2.cell? ⟨w0.heap.size, 6, none⟩ = some (.bool true) := HA.out.blk.cells.2.2.2.2.2.2
      have d2 : w2.cell? ⟨w0.heap.size, 4, none⟩ = some (.slice none 0 0) := HA.out.blk.cells.2.2.2.2.1
      have f6 := HA.out.blk.fz 6
      have f2 := HA.out.blk.fz 4
      have HS : Hid (RX w0 ((w2.setCell ⟨w0.heap.size, 6, none⟩ (.bool true)).alloc (.cells #[.string ⟨#[]⟩] 9)) wa 0 c oa on oc nilDA true ⟨[], [], [], []⟩) := (HA.out.bad true).step (new_below _ _)
      have HO1 : Hid (RdT ((w2.setCell ⟨w0.heap.size, 6, none⟩ (.bool true)).alloc (.cells #[.string ⟨#[]⟩] 9)) (some ⟨w2.heap.size, 0, none⟩) [⟨#[]⟩]) := by
        have := one_rdT (w2.setCell ⟨w0.heap.size, 6, none⟩ (.bool true)) ⟨#[]⟩
        rw [World.size_setCell] at this
        exact this
      have HB : Hid (w0.heap.size + 1 ≤ ((w2.setCell ⟨w0.heap.size, 6, none⟩ (.bool true)).alloc (.cells #[.string ⟨#[]⟩] 9)).heap.size) := HS.out.blk.lt
      go_wp2_with (at_builtin; refine wl_st rfl fun K hK => ?_; refine st_ts rfl _ _ rfl (w0.heap.size + 1) ⟨none, 0, 0⟩ [] rfl HS.out.own.2.2.1 ⟨w2.heap.size, 0, none⟩ rfl ⟨#[]⟩ HO1.out (by decide) (by decide) HB.out ?_; intro t' w' hO hG; obtain ⟨og', hg1, hg2⟩ := hG.out; have HR := Lib.hid (HS.out.app3 rfl hg1 hg2 t' _ hO.out); have hr := (HS.out.grown hg1 (fun j e => (hg2 j e).1)).1; have g2 := hr.cells.2.2.2.2.1; have gf := hr.fz 4; refine hK _ _ ?_)
      exact ⟨.inr ⟨rfl, _, _, HR.out⟩, by simp [intOf]⟩
    · obtain ⟨x, d, hx⟩ := HX.out
      go_wp2_with fail
      go_end0
      exact ⟨_, wa, 0, c, x, d, rfl, hx⟩
set_option maxRecDepth 100000 in
set_option maxHeartbeats 4000000 in
theorem readTXT_no (w0 : World) (wa : Option Addr) (c : Nat) (oa : Option Addr) (on oc : Nat) (hE : LayE w0) : RdNo 16 w0 wa [] c oa on oc := by
  intro w h
  have K := Lib.hid (texts_none w0 w wa c oa on oc hE h)
  have d0 := h.blk.cells.1
  simp only [List.length_nil] at d0
  clear hE h
  go_enter Tryz.func89, Tryz.ntmps89
  go_wp2_with fail
  refine K.out.mono ?_
  rintro e w' ⟨v, wa', n', c', x', d', rfl, H2⟩
  go_wp2_with fail
  go_end0
  exact ⟨_, wa', n', c', x', d', rfl, H2⟩
end Go.Proofs.YtfkfjodfjgjbkaaGreatDoor
/- A Builder that may have been written empty texts; words of a count and digits. -/
namespace Go.Proofs.YtfkfjodfjgjbkaaGreatDoor
open Go.ChangeShapes Go.WideShapes Go.ChangeAt Go.RowKit
set_option linter.unusedVariables false
set_option linter.unusedSimpArgs false

/-- A Builder that has been used; it has no room of its own while nothing stands in it. -/
def GW (B : Nat) (w : World) (b : Nat) (bs : List Value) : Prop :=
  ∃ v, BB w b (.pointer (some ⟨b, 0, none⟩)) v ∧ w.ownsRow B 5 1 v bs.length bs ∧ v.ownBlock ≠ some b ∧ (bs = [] → v = .slice none 0 0)
def G2 (B : Nat) (w : World) (b : Nat) (bs : List Value) : Prop := (BB w b (.pointer none) (.slice none 0 0) ∧ bs = []) ∨ GW B w b bs
theorem bcheckU (B b : Nat) (bs : List Value) (w : World) (h : G2 B w b bs) (hB : B ≤ b) :
    Calls Tryz.prog 84 #[.pointer (some ⟨b, 0, none⟩)] w fun e w' => e = .returned (.tuple #[]) ∧ Hid (GW B w' b bs ∧ Below B w w') := by
  rcases h with ⟨h1, rfl⟩ | ⟨v, h1, h3, h4⟩
  · refine (check_fresh b _ w h1).mono ?_
    rintro e w' ⟨rfl, rfl⟩
    refine ⟨rfl, ⟨.slice none 0 0, ?_, World.ownsRow_nil _ _ _ _, by simp [Value.ownBlock], fun _ => rfl⟩, (Below.refl _ _).setCell hB _⟩
    have := heap_set h1 0 (.pointer (some ⟨b, 0, none⟩))
    simpa [BB] using this
  · refine (check_used b v w h1).mono ?_
    rintro e w' ⟨rfl, rfl⟩
    exact ⟨rfl, ⟨v, h1, h3, h4⟩, Below.refl _ _⟩
set_option maxRecDepth 100000 in
set_option maxHeartbeats 1000000 in
theorem wstrU (B b : Nat) (bs : List Value) (s : ByteArray) (w : World) (h : G2 B w b bs) (hB : B ≤ b) (hl : bs.length + s.size ≤ 140737488355328) :
    Calls Tryz.prog 80 #[.pointer (some ⟨b, 0, none⟩), .string s] w fun e w' => e = .returned (.tuple #[.int .i64 s.size, .nilIface]) ∧ Hid (GW B w' b (bs ++ Lib.byteCells s.data.toList) ∧ Below B w w') := by
  have HG : Hid (G2 B w b bs) := h
  have hcl : (Lib.byteCells s.data.toList).length = s.size := by rw [Lib.byteCells_length]; rfl
  have HCL : Hid ((Lib.byteCells s.data.toList).length = s.size) := hcl
  clear h hcl
  go_enter Tryz.func80, Tryz.ntmps80
  go_wp2_with fail
  refine (bcheckU B b bs _ HG.out hB).mono ?_
  rintro e w1 ⟨rfl, H1⟩
  obtain ⟨v, h1, h2, h4, h5⟩ := H1.out.1
  have HV : Hid (bs = [] → v = .slice none 0 0) := h5
  clear h5
  have HB1 : Hid (Below B w w1) := H1.out.2
  have HB : Hid (BB w1 b (.pointer (some ⟨b, 0, none⟩)) v ∧ w1.ownsRow B 5 1 v bs.length bs) := ⟨h1, h2⟩
  have c1 := h1.c1
  have hlt := h1.lt
  clear h1 h2 H1 HG
  obtain ⟨i5, hi, hz0, hz1, hz2⟩ := info_parts Tryz.info5
  have HI : Hid (Tryz.prog.info? 5 = some i5 ∧ i5.zero = some (.int .u8 0) ∧ i5.size = 1 ∧ i5.bytes = 1) := ⟨hi, hz0, hz1, hz2⟩
  clear hi hz0 hz1 hz2
  go_wp2_with (at_builtin; refine Lib.wpList_append_own_string _ rfl _ _ 27 9 rfl B 5 i5 Tryz.underlying27 Tryz.underlying9 HI.out.1 HI.out.2.1 HI.out.2.2.1 HI.out.2.2.2 v bs.length bs rfl HB.out.2 s rfl (by simp only [maxLen]; omega) (by omega) (by omega) ?_; intro v' w2 hown2 hgr2 hnil; obtain ⟨ao, cc, rfl⟩ := row_shape hown2; have hbk : Hid (w2.heap[b]? = w1.heap[b]?) := (hgr2.block b hlt (fun e => h4 e.symm)); have d1 := (HB.out.1.same hbk.out).c1; have d2 := (HB.out.1.same hbk.out).fz 1; have HG2 : Hid (w1.grownBy w2 v.ownBlock ∧ w2.ownsRow B 5 1 (.slice ao (bs.length + s.size) cc) (bs.length + s.size) (bs ++ Lib.byteCells s.data.toList)) := ⟨hgr2, by rw [← strCells_eq]; exact hown2⟩; have HNIL : Hid (Value.slice ao (bs.length + s.size) cc = .slice none 0 0 ↔ v = .slice none 0 0 ∧ s.size = 0) := hnil; clear hown2 hgr2 hnil)
  go_ret2
  have hb2 := HB.out.1.same hbk.out
  have hrow : ∀ g, v.ownBlock = some g → B ≤ g := fun g hg => (HB.out.2.lt g hg).1
  have hbel : Below B w1 w2 := (Below.refl B w1).grown HG2.out.1 (by omega) hrow
  have hne : (Value.slice ao (bs.length + s.size) cc).ownBlock ≠ some b := by
    intro e
    obtain ⟨_, hc | ⟨g, cap, cur, hv, _, hg, _⟩⟩ := HG2.out.2
    · rw [hc.1] at e; simp [Value.ownBlock] at e
    · rw [hv] at e
      have e2 : g = b := by simpa [Value.ownBlock] using e
      rw [e2] at hg
      have hb3 : w2.heap[b]? = _ := hb2
      rw [hb3] at hg
      injection hg with hg
      injection hg with _ hg _
      exact absurd hg (by decide)
  refine ⟨rfl, ⟨.slice ao (bs.length + s.size) cc, ?_, ?_, hne, fun e => HNIL.out.2 ⟨HV.out (List.append_eq_nil_iff.1 e).1, by have := HCL.out; rw [(List.append_eq_nil_iff.1 e).2] at this; exact this.symm⟩⟩, HB1.out.trans (hbel.setCell hB _)⟩
  · have := heap_set hb2 1 (.slice ao (bs.length + s.size) cc)
    simpa [BB] using this
  · have := row_set HG2.out.2 hne 1 (.slice ao (bs.length + s.size) cc)
    rw [List.length_append, HCL.out]
    exact this
set_option maxRecDepth 100000 in
set_option maxHeartbeats 1000000 in
theorem wstringU (B b : Nat) (l : List UInt8) (w : World) (h : G2 B w b (Lib.byteCells l)) (hl : l.length ≤ 9223372036854775807) :
    Calls Tryz.prog 49 #[.pointer (some ⟨b, 0, none⟩)] w fun e w' => e = .returned (.string ⟨l.toArray⟩) ∧ Hid (Below B w w') := by
  rcases h with h | ⟨v, h1, h2, h4, h5⟩
  · exact wstring B b l w (.inl h) hl
  · have hlen := Lib.byteCells_length l
    rcases h2.2 with ⟨hv, h0⟩ | ⟨g, cap, cur, rfl, hBg, hg, hn, hm, hs, hx⟩
    · have hl0 : l = [] := List.eq_nil_of_length_eq_zero (by omega)
      subst hl0
      subst hv
      have c1 := h1.c1
      have s1 : ∀ (W : World) (ts : Array TypeId) (ty : TypeId), (Builtin.unsafeSliceData_ ts ty #[.slice none 0 0]).run Tryz.prog W = .ok (.pointer none) W := fun W ts ty => Lib.run_unsafeSliceData_nil W ts ty 0 0
      have s2 : ∀ (W : World) (ty : TypeId), (Builtin.unsafeString_ #[120, 3] ty #[.pointer none, .int .i64 0]).run Tryz.prog W = .ok (.string .empty) W := fun W ty => Lib.run_unsafeString_none W 120 3 ty none
      clear h1 h0 h2
      go_enter Tryz.func49, Tryz.ntmps49
      go_wp2_with fail
      go_region_held3 (fun W => W.cell? ⟨b, 1, none⟩ = some (.slice none 0 0)) (go_keep) (fail)
      go_wp2
      go_ret
      exact ⟨rfl, (Below.refl _ _).drew⟩
    · have hne : 0 < (Lib.byteCells l).length := by
        apply List.length_pos_iff.2
        intro e
        have := h5 e
        simp at this
      exact bstring B b l.length l w (.inr ⟨g, cap, h1, h2, by omega, fun e => h4 (by rw [e]; rfl), (h2.lt g rfl).2, by omega⟩) rfl hl
end Go.Proofs.YtfkfjodfjgjbkaaGreatDoor
/- Words of a count and digits. -/
namespace Go.Proofs.YtfkfjodfjgjbkaaGreatDoor
open Go.ChangeShapes Go.WideShapes Go.ChangeAt Go.RowKit
set_option linter.unusedVariables false
set_option linter.unusedSimpArgs false

def catL (ps : List Wd) : List UInt8 := ps.flatMap fun p => p.1.data.toList
theorem catL_snoc (ps : List Wd) (k : Nat) (h : k < ps.length) : catL (ps.take (k + 1)) = catL (ps.take k) ++ ps[k].1.data.toList := by
  unfold catL
  rw [List.take_add_one, List.getElem?_eq_getElem h, Option.toList_some, List.flatMap_append]
  simp
theorem catL_le (ps : List Wd) (k : Nat) : (catL (ps.take k)).length ≤ (catL ps).length := by
  have : catL ps = catL (ps.take k) ++ catL (ps.drop k) := by
    unfold catL
    rw [← List.flatMap_append, List.take_append_drop]
  rw [this]; simp
theorem cells_app (a b : List UInt8) : Lib.byteCells (a ++ b) = Lib.byteCells a ++ Lib.byteCells b := by simp [Lib.byteCells]
theorem G2.below {B b : Nat} {w w' : World} {bs : List Value} (h : G2 B w b bs) (hb : Below w.heap.size w w') : G2 B w' b bs := by
  rcases h with ⟨h1, h2⟩ | ⟨v, h1, h2, h3, h4⟩
  · exact .inl ⟨h1.same (hb.block _ h1.lt), h2⟩
  · exact .inr ⟨v, h1.same (hb.block _ h1.lt), h2.kept (row := none) ⟨hb.os, hb.tape, hb.output, hb.size, fun k hk _ => hb.block k hk⟩ (by cases hv : v.ownBlock with | none => exact .inl rfl | some g => exact .inr (by simp)), h3, h4⟩
theorem OwnA.capb {B : Nat} {w : World} {ao : Option Addr} {n : Nat} {ys : List Int} (h : OwnA B w ao n ys) : (n ≤ ys.length ∧ ys.length ≤ 9223372036854775807) ∧ (ao = none → ys.length = 0) := by
  rcases h with ⟨rfl, rfl, rfl⟩ | ⟨g, rfl, _, _, h1, h2⟩
  · simp
  · exact ⟨⟨h1, by simpa only [maxLen] using h2⟩, by simp⟩
theorem RdW.at {w : World} {b o : Nat} {p : Wd} {ps : List Wd} (h : RdW w (some ⟨b, o, none⟩) (p :: ps)) (k : Nat) (hk : k < ps.length) : b < w.heap.size ∧ w.cell? ⟨b, o + 2 + k * 2, none⟩ = some (.string ps[k].1) ∧ w.cell? ⟨b, o + 2 + k * 2 + 1, none⟩ = some (.bool ps[k].2) := by
  rcases h with h | ⟨b', o', e, h2, h3⟩
  · cases h
  · injection e with e
    injection e with e1 e2
    subst e1; subst e2
    have := h3 (k + 1) (by simp; omega)
    rw [show o + 2 * (k + 1) = o + 2 + k * 2 by omega] at this
    exact ⟨h2, this.1, this.2⟩
abbrev nilB (w : World) : World := w.alloc (.cells #[.slice none 0 0, .slice none 0 0, .slice none 0 0, .slice none 0 0] 29)
set_option maxRecDepth 100000 in
set_option maxHeartbeats 4000000 in
theorem hashed_ok (t : Nat) (b o : Nat) (num : ByteArray) (qn : Bool) (ps : List Wd) (c : Nat) (w : World) (hw : RdW w (some ⟨b, o, none⟩) ((num, qn) :: ps)) (hc : ps.length + 1 ≤ c) (h63 : c ≤ 9223372036854775807) (m : Nat) (hns : num.size ≤ 1000000) (hm : xnum (nums num) (2 ^ 32) = some m)
    (n : Nat) (hn : (catL ps).length = 2 * n) (hs : (catL ps).length ≤ 131070) (ho : ∀ k, k < n → okp (nums ⟨(catL ps).toArray⟩) k) (d : Dat) (hmn : m = n) (hd : readF t (prs (nums ⟨(catL ps).toArray⟩) n) = (d, 0)) :
    Calls Tryz.prog 88 #[.int .u16 (t : Int), .slice (some ⟨b, o, none⟩) (ps.length + 1) c] w fun e w' => ∃ x : DA, e = .returned (.tuple #[.agg #[.slice x.p1.a x.p1.n x.p1.c, .slice x.p2.a x.p2.n x.p2.c, .slice x.p3.a x.p3.n x.p3.c, .slice x.p4.a x.p4.n x.p4.c], .bool true]) ∧ Hid (DOwn w.heap.size w' x d ∧ Below w.heap.size w w') := by
  obtain ⟨b', o', e', hb, c1, c2, -⟩ := hw.head
  injection e' with e'
  injection e' with e1 e2
  subst e1; subst e2
  have HW : Hid (RdW w (some ⟨b, o, none⟩) ((num, qn) :: ps)) := hw
  have HZ : Hid (Below w.heap.size w (nilB w) ∧ DBlk (nilB w) w.heap.size nilDA) := ⟨new_below _ _, heap_alloc_new _ _⟩
  have hs0 : (nilB w).heap.size = w.heap.size + 1 := by simp [nilB]
  have HG0 : Hid (G2 (w.heap.size + 1) ((nilB w).alloc (.cells #[.pointer none, .slice none 0 0] 81)) (w.heap.size + 1) [] ∧ Below (w.heap.size + 1) (nilB w) ((nilB w).alloc (.cells #[.pointer none, .slice none 0 0] 81))) := by
    have h1 : BB ((nilB w).alloc (.cells #[.pointer none, .slice none 0 0] 81)) (nilB w).heap.size (.pointer none) (.slice none 0 0) := heap_alloc_new _ _
    have h2 := new_below (nilB w) (.cells #[.pointer none, .slice none 0 0] 81)
    rw [hs0] at h1 h2
    exact ⟨.inl ⟨h1, rfl⟩, h2⟩
  have KN : Hid (∀ W, Calls Tryz.prog 96 #[.string num, .int .i64 32] W fun e w' => e = .returned (.tuple #[.int .u32 (m : Int), .bool true]) ∧ Hid (Below W.heap.size W w')) := fun W => num_yes 32 (.inr rfl) num (by omega) m hm W
  have hm32 := (xnum_some hm).2
  have hp32 : (2 : Nat) ^ 32 = 4294967296 := by decide
  rw [hp32] at hm32
  have hn2 : n ≤ 65535 := by omega
  have hsz : (⟨(catL ps).toArray⟩ : ByteArray).size = (catL ps).length := by simp [ByteArray.size]
  have KU : Hid (∀ W, Calls Tryz.prog 115 #[.string ⟨(catL ps).toArray⟩] W fun e w' => ∃ ao ys, e = .returned (.tuple #[.slice ao n ys.length, .int .i64 0]) ∧ Hid (OwnA W.heap.size w' ao n ys ∧ ys.take n = prs (nums ⟨(catL ps).toArray⟩) n ∧ Below W.heap.size W w')) := fun W =>
    (unhex_even ⟨(catL ps).toArray⟩ n W (by rw [hsz]; exact hn) (by rw [hsz]; exact hs)).mono (by
      rintro e w' (⟨⟨k, hk, hno⟩, -⟩ | ⟨-, ao, ys, he, h1, h2, h3⟩)
      · exact absurd (ho k hk) hno
      · exact ⟨ao, ys, he, h1, h2, h3⟩)
  have HD : Hid (readF t (prs (nums ⟨(catL ps).toArray⟩) n) = (d, 0) ∧ (prs (nums ⟨(catL ps).toArray⟩) n).length = n) := ⟨hd, prs_len _ _⟩
  have HS : Hid ((catL ps).length ≤ 131070) := hs
  clear hw ho hd hm hn hs hsz
  subst hmn
  obtain ⟨N, hN⟩ : ∃ N, ps.length = N := ⟨_, rfl⟩
  have HN : Hid (ps.length = N) := hN
  rw [hN] at hc ⊢
  clear hN
  generalize hL : (⟨(catL ps).toArray⟩ : ByteArray) = Lh at *
  generalize hzs : prs (nums Lh) m = zs at *
  by_cases hc1 : c = 1
  · have hN0 : N = 0 := by omega
    subst hc1; subst hN0
    go_enter Tryz.func88, Tryz.ntmps88
    go_wp2_with fail
    go_loopw [21] (fun y wr => ∃ k : Nat, k ≤ 0 ∧ y = .int .i64 k ∧ Hid (G2 (w.heap.size + 1) wr (w.heap.size + 1) (Lib.byteCells (catL (ps.take k))) ∧ Below (w.heap.size + 1) (nilB w) wr)) (fun y _ => 0 - (intOf y).toNat)
    case atStart => exact ⟨0, Nat.zero_le _, rfl, HG0.out⟩
    case round =>
      obtain ⟨k, hk, rfl, HR⟩ := hrel
      have HBW : Hid (Below w.heap.size w wr) := HZ.out.1.trans (HR.out.2.mono (by omega))
      by_cases hlt : k < 0
      · exact absurd hlt (by omega)
      · have hge : ¬ (k : Int) < (0 : Int) := by omega
        have hkn : k = 0 := by omega
        subst hkn
        have hall : ps.take 0 = ps := List.take_of_length_le (by rw [HN.out]; exact Nat.le_refl _)
        have HG : Hid (G2 (w.heap.size + 1) wr (w.heap.size + 1) (Lib.byteCells (catL ps)) ∧ Below (w.heap.size + 1) (nilB w) wr) := by rw [hall] at HR; exact HR
        have q1 : wr.cell? ⟨b, o, none⟩ = some (.string num) := (HBW.out.cell (p := ⟨b, o, none⟩) hb).trans c1
        clear HR hall HBW
        go_wp2_with fail
        refine (KN.out _).mono ?_
        rintro e w2 ⟨rfl, H2⟩
        have HG2 : Hid (G2 (w.heap.size + 1) w2 (w.heap.size + 1) (Lib.byteCells (catL ps)) ∧ Below (w.heap.size + 1) (nilB w) w2) := ⟨HG.out.1.below H2.out, HG.out.2.trans (H2.out.mono (by have := HG.out.2.size; rw [hs0] at this; exact this))⟩
        have KS : Hid (Calls Tryz.prog 49 #[.pointer (some ⟨w.heap.size + 1, 0, none⟩)] w2 fun e w' => e = .returned (.string Lh) ∧ Hid (Below (w.heap.size + 1) w2 w')) := by
          have := wstringU (w.heap.size + 1) (w.heap.size + 1) (catL ps) w2 HG2.out.1 (by have := HS.out; omega)
          rw [hL] at this
          exact this
        clear HG H2
        go_wp2_with fail
        refine KS.out.mono ?_
        rintro e w3 ⟨rfl, H3⟩
        have HB3 : Hid (Below (w.heap.size + 1) (nilB w) w3) := HG2.out.2.trans H3.out
        clear KS H3 HG2
        go_wp2_with fail
        refine (KU.out _).mono ?_
        rintro e w4 ⟨ao, ys, rfl, H4⟩
        have HB4 : Hid (Below (w.heap.size + 1) (nilB w) w4) := HB3.out.trans (H4.out.2.2.mono (by have := HB3.out.size; rw [hs0] at this; exact this))
        have KR : Hid (Calls Tryz.prog 116 #[.int .u16 t, .slice ao m ys.length] w4 (RdP (d, 0) w4)) := by
          have hr := H4.out.1.rdTake m
          rw [H4.out.2.1] at hr
          have := read5_any t ao m ys.length zs w4 hr HD.out.2 (OwnA.capb H4.out.1).1 (OwnA.capb H4.out.1).2
          rw [HD.out.1] at this
          exact this
        clear HB3 H4 KU KN
        go_wp2_with fail
        refine KR.out.mono ?_
        rintro e w6 ⟨x, rfl, H6⟩
        have hs4 : w.heap.size + 1 ≤ w4.heap.size := by have := HB4.out.size; rw [hs0] at this; exact this
        have HB6 : Hid (Below (w.heap.size + 1) (nilB w) w6) := HB4.out.trans (H6.out.2.mono hs4)
        have hs6 : w.heap.size + 1 ≤ w6.heap.size := by have := HB6.out.size; rw [hs0] at this; exact this
        have HRB : Hid (DBlk w6 w.heap.size nilDA) := (HB6.out.block _ (by omega)).trans HZ.out.2
        have HO : Hid (DOwn w4.heap.size w6 x d) := H6.out.1
        have HBW6 : Hid (Below w.heap.size w w6) := HZ.out.1.trans (HB6.out.mono (by omega))
        have er0 := HRB.out.box.1
        have er1 := HRB.out.box.2.1
        have er2 := HRB.out.box.2.2.1
        have er3 := HRB.out.box.2.2.2.1
        have ez0 := HRB.out.fz 0
        have ez1 := HRB.out.fz 1
        have ez2 := HRB.out.fz 2
        have ez3 := HRB.out.fz 3
        simp only at er0 er1 er2 er3
        have hne1 : ¬ w.heap.size = w6.heap.size := by omega
        have hne2 : ¬ w6.heap.size = w.heap.size := by omega
        have hlt6 : w.heap.size < w6.heap.size := by omega
        clear KR H6 HB4 HB6
        go_wp2_with fail
        have HX : Hid (DBlk ((((w6.setCell ⟨w.heap.size, 0, none⟩ (.slice x.p1.a x.p1.n x.p1.c)).setCell ⟨w.heap.size, 1, none⟩ (.slice x.p2.a x.p2.n x.p2.c)).setCell ⟨w.heap.size, 2, none⟩ (.slice x.p3.a x.p3.n x.p3.c)).setCell ⟨w.heap.size, 3, none⟩ (.slice x.p4.a x.p4.n x.p4.c)) w.heap.size x ∧ Below w.heap.size w ((((w6.setCell ⟨w.heap.size, 0, none⟩ (.slice x.p1.a x.p1.n x.p1.c)).setCell ⟨w.heap.size, 1, none⟩ (.slice x.p2.a x.p2.n x.p2.c)).setCell ⟨w.heap.size, 2, none⟩ (.slice x.p3.a x.p3.n x.p3.c)).setCell ⟨w.heap.size, 3, none⟩ (.slice x.p4.a x.p4.n x.p4.c))) := ret4 HRB.out HBW6.out (Nat.le_refl _) x
        have HX2 : Hid (DOwn w.heap.size ((((w6.setCell ⟨w.heap.size, 0, none⟩ (.slice x.p1.a x.p1.n x.p1.c)).setCell ⟨w.heap.size, 1, none⟩ (.slice x.p2.a x.p2.n x.p2.c)).setCell ⟨w.heap.size, 2, none⟩ (.slice x.p3.a x.p3.n x.p3.c)).setCell ⟨w.heap.size, 3, none⟩ (.slice x.p4.a x.p4.n x.p4.c)) x d) := HO.out.ret4 (by omega) (by omega)
        have HY : Hid (DBlk (((((w6.setCell ⟨w.heap.size, 0, none⟩ (.slice x.p1.a x.p1.n x.p1.c)).setCell ⟨w.heap.size, 1, none⟩ (.slice x.p2.a x.p2.n x.p2.c)).setCell ⟨w.heap.size, 2, none⟩ (.slice x.p3.a x.p3.n x.p3.c)).setCell ⟨w.heap.size, 3, none⟩ (.slice x.p4.a x.p4.n x.p4.c)).alloc (.cells #[.slice x.p1.a x.p1.n x.p1.c, .slice x.p2.a x.p2.n x.p2.c, .slice x.p3.a x.p3.n x.p3.c, .slice x.p4.a x.p4.n x.p4.c] 29)) w.heap.size x ∧ DOwn w.heap.size (((((w6.setCell ⟨w.heap.size, 0, none⟩ (.slice x.p1.a x.p1.n x.p1.c)).setCell ⟨w.heap.size, 1, none⟩ (.slice x.p2.a x.p2.n x.p2.c)).setCell ⟨w.heap.size, 2, none⟩ (.slice x.p3.a x.p3.n x.p3.c)).setCell ⟨w.heap.size, 3, none⟩ (.slice x.p4.a x.p4.n x.p4.c)).alloc (.cells #[.slice x.p1.a x.p1.n x.p1.c, .slice x.p2.a x.p2.n x.p2.c, .slice x.p3.a x.p3.n x.p3.c, .slice x.p4.a x.p4.n x.p4.c] 29)) x d ∧ Below w.heap.size w (((((w6.setCell ⟨w.heap.size, 0, none⟩ (.slice x.p1.a x.p1.n x.p1.c)).setCell ⟨w.heap.size, 1, none⟩ (.slice x.p2.a x.p2.n x.p2.c)).setCell ⟨w.heap.size, 2, none⟩ (.slice x.p3.a x.p3.n x.p3.c)).setCell ⟨w.heap.size, 3, none⟩ (.slice x.p4.a x.p4.n x.p4.c)).alloc (.cells #[.slice x.p1.a x.p1.n x.p1.c, .slice x.p2.a x.p2.n x.p2.c, .slice x.p3.a x.p3.n x.p3.c, .slice x.p4.a x.p4.n x.p4.c] 29))) := ⟨((new_below ((((w6.setCell ⟨w.heap.size, 0, none⟩ (.slice x.p1.a x.p1.n x.p1.c)).setCell ⟨w.heap.size, 1, none⟩ (.slice x.p2.a x.p2.n x.p2.c)).setCell ⟨w.heap.size, 2, none⟩ (.slice x.p3.a x.p3.n x.p3.c)).setCell ⟨w.heap.size, 3, none⟩ (.slice x.p4.a x.p4.n x.p4.c)) (.cells #[.slice x.p1.a x.p1.n x.p1.c, .slice x.p2.a x.p2.n x.p2.c, .slice x.p3.a x.p3.n x.p3.c, .slice x.p4.a x.p4.n x.p4.c] 29)).block _ HX.out.1.lt).trans HX.out.1, HX2.out.stays (new_below ((((w6.setCell ⟨w.heap.size, 0, none⟩ (.slice x.p1.a x.p1.n x.p1.c)).setCell ⟨w.heap.size, 1, none⟩ (.slice x.p2.a x.p2.n x.p2.c)).setCell ⟨w.heap.size, 2, none⟩ (.slice x.p3.a x.p3.n x.p3.c)).setCell ⟨w.heap.size, 3, none⟩ (.slice x.p4.a x.p4.n x.p4.c)) (.cells #[.slice x.p1.a x.p1.n x.p1.c, .slice x.p2.a x.p2.n x.p2.c, .slice x.p3.a x.p3.n x.p3.c, .slice x.p4.a x.p4.n x.p4.c] 29)), HX.out.2.trans ((new_below ((((w6.setCell ⟨w.heap.size, 0, none⟩ (.slice x.p1.a x.p1.n x.p1.c)).setCell ⟨w.heap.size, 1, none⟩ (.slice x.p2.a x.p2.n x.p2.c)).setCell ⟨w.heap.size, 2, none⟩ (.slice x.p3.a x.p3.n x.p3.c)).setCell ⟨w.heap.size, 3, none⟩ (.slice x.p4.a x.p4.n x.p4.c)) (.cells #[.slice x.p1.a x.p1.n x.p1.c, .slice x.p2.a x.p2.n x.p2.c, .slice x.p3.a x.p3.n x.p3.c, .slice x.p4.a x.p4.n x.p4.c] 29)).mono HX.out.2.size)⟩
        generalize (((((w6.setCell ⟨w.heap.size, 0, none⟩ (.slice x.p1.a x.p1.n x.p1.c)).setCell ⟨w.heap.size, 1, none⟩ (.slice x.p2.a x.p2.n x.p2.c)).setCell ⟨w.heap.size, 2, none⟩ (.slice x.p3.a x.p3.n x.p3.c)).setCell ⟨w.heap.size, 3, none⟩ (.slice x.p4.a x.p4.n x.p4.c)).alloc (.cells #[.slice x.p1.a x.p1.n x.p1.c, .slice x.p2.a x.p2.n x.p2.c, .slice x.p3.a x.p3.n x.p3.c, .slice x.p4.a x.p4.n x.p4.c] 29)) = W9 at *
        have z0 := HY.out.1.box.1
        have z1 := HY.out.1.box.2.1
        have z2 := HY.out.1.box.2.2.1
        have z3 := HY.out.1.box.2.2.2.1
        exact bodyPost_ret (v := .tuple #[.agg #[.slice x.p1.a x.p1.n x.p1.c, .slice x.p2.a x.p2.n x.p2.c, .slice x.p3.a x.p3.n x.p3.c, .slice x.p4.a x.p4.n x.p4.c], .bool true]) (by simp [results, Tryz.results88, go_sem, z0, z1, z2, z3]) rfl ⟨x, rfl, HY.out.2⟩
  · have hc1' : ¬ c - 1 = 0 := by omega
    have hc2 : ¬ (c : Int) - 1 = 0 := by omega
    go_enter Tryz.func88, Tryz.ntmps88
    go_wp2_with fail
    go_loopw [21] (fun y wr => ∃ k : Nat, k ≤ N ∧ y = .int .i64 k ∧ Hid (G2 (w.heap.size + 1) wr (w.heap.size + 1) (Lib.byteCells (catL (ps.take k))) ∧ Below (w.heap.size + 1) (nilB w) wr)) (fun y _ => N - (intOf y).toNat)
    case atStart => exact ⟨0, Nat.zero_le _, rfl, HG0.out⟩
    case round =>
      obtain ⟨k, hk, rfl, HR⟩ := hrel
      have HBW : Hid (Below w.heap.size w wr) := HZ.out.1.trans (HR.out.2.mono (by omega))
      by_cases hlt : k < N
      · have hlt' : (k : Int) < (N : Int) := by omega
        have hkp : k < ps.length := by rw [HN.out]; exact hlt
        obtain ⟨-, r1, r2⟩ := HW.out.at k hkp
        have q1 : wr.cell? ⟨b, o + 2 + k * 2, none⟩ = some (.string ps[k].1) := (HBW.out.cell (p := ⟨b, o + 2 + k * 2, none⟩) hb).trans r1
        have q2 : wr.cell? ⟨b, o + 2 + k * 2 + 1, none⟩ = some (.bool ps[k].2) := (HBW.out.cell (p := ⟨b, o + 2 + k * 2 + 1, none⟩) hb).trans r2
        have HT := Lib.hid (catL_snoc ps k hkp)
        have HL : Hid ((Lib.byteCells (catL (ps.take k))).length + ps[k].1.size ≤ 140737488355328) := by
          show _ ≤ _
          have h1 := catL_le ps (k + 1)
          rw [catL_snoc ps k hkp, List.length_append] at h1
          have h2 := HS.out
          rw [Lib.byteCells_length]
          have h3 : ps[k].1.data.toList.length = ps[k].1.size := rfl
          omega
        clear r1 r2
        generalize ps[k].1 = s at *
        generalize ps[k].2 = q at *
        go_wp2_with fail
        have hnb : Below wr.heap.size wr (wr.alloc (.cells #[.string s, .bool q] 59)) := new_below _ _
        have hbz : w.heap.size + 1 ≤ wr.heap.size := by have := HR.out.2.size; rw [hs0] at this; exact this
        have KW := Lib.hid (wstrU (w.heap.size + 1) (w.heap.size + 1) (Lib.byteCells (catL (ps.take k))) s (wr.alloc (.cells #[.string s, .bool q] 59)) (HR.out.1.below hnb) (Nat.le_refl _) HL.out)
        refine KW.out.mono ?_
        rintro e w2 ⟨rfl, H2⟩
        go_wp2_with fail
        refine ⟨⟨k + 1, by omega, by go_num, ?_, ?_⟩, by simp [intOf]; omega⟩
        · rw [HT.out, cells_app]; exact .inr H2.out.1
        · exact (HR.out.2.trans (hnb.mono hbz)).trans H2.out.2
      · have hge : ¬ (k : Int) < (N : Int) := by omega
        have hkn : k = N := by omega
        subst hkn
        have hall : ps.take k = ps := List.take_of_length_le (by rw [HN.out]; exact Nat.le_refl _)
        have HG : Hid (G2 (w.heap.size + 1) wr (w.heap.size + 1) (Lib.byteCells (catL ps)) ∧ Below (w.heap.size + 1) (nilB w) wr) := by rw [hall] at HR; exact HR
        have q1 : wr.cell? ⟨b, o, none⟩ = some (.string num) := (HBW.out.cell (p := ⟨b, o, none⟩) hb).trans c1
        clear HR hall HBW
        go_wp2_with fail
        refine (KN.out _).mono ?_
        rintro e w2 ⟨rfl, H2⟩
        have HG2 : Hid (G2 (w.heap.size + 1) w2 (w.heap.size + 1) (Lib.byteCells (catL ps)) ∧ Below (w.heap.size + 1) (nilB w) w2) := ⟨HG.out.1.below H2.out, HG.out.2.trans (H2.out.mono (by have := HG.out.2.size; rw [hs0] at this; exact this))⟩
        have KS : Hid (Calls Tryz.prog 49 #[.pointer (some ⟨w.heap.size + 1, 0, none⟩)] w2 fun e w' => e = .returned (.string Lh) ∧ Hid (Below (w.heap.size + 1) w2 w')) := by
          have := wstringU (w.heap.size + 1) (w.heap.size + 1) (catL ps) w2 HG2.out.1 (by have := HS.out; omega)
          rw [hL] at this
          exact this
        clear HG H2
        go_wp2_with fail
        refine KS.out.mono ?_
        rintro e w3 ⟨rfl, H3⟩
        have HB3 : Hid (Below (w.heap.size + 1) (nilB w) w3) := HG2.out.2.trans H3.out
        clear KS H3 HG2
        go_wp2_with fail
        refine (KU.out _).mono ?_
        rintro e w4 ⟨ao, ys, rfl, H4⟩
        have HB4 : Hid (Below (w.heap.size + 1) (nilB w) w4) := HB3.out.trans (H4.out.2.2.mono (by have := HB3.out.size; rw [hs0] at this; exact this))
        have KR : Hid (Calls Tryz.prog 116 #[.int .u16 t, .slice ao m ys.length] w4 (RdP (d, 0) w4)) := by
          have hr := H4.out.1.rdTake m
          rw [H4.out.2.1] at hr
          have := read5_any t ao m ys.length zs w4 hr HD.out.2 (OwnA.capb H4.out.1).1 (OwnA.capb H4.out.1).2
          rw [HD.out.1] at this
          exact this
        clear HB3 H4 KU KN
        go_wp2_with fail
        refine KR.out.mono ?_
        rintro e w6 ⟨x, rfl, H6⟩
        have hs4 : w.heap.size + 1 ≤ w4.heap.size := by have := HB4.out.size; rw [hs0] at this; exact this
        have HB6 : Hid (Below (w.heap.size + 1) (nilB w) w6) := HB4.out.trans (H6.out.2.mono hs4)
        have hs6 : w.heap.size + 1 ≤ w6.heap.size := by have := HB6.out.size; rw [hs0] at this; exact this
        have HRB : Hid (DBlk w6 w.heap.size nilDA) := (HB6.out.block _ (by omega)).trans HZ.out.2
        have HO : Hid (DOwn w4.heap.size w6 x d) := H6.out.1
        have HBW6 : Hid (Below w.heap.size w w6) := HZ.out.1.trans (HB6.out.mono (by omega))
        have er0 := HRB.out.box.1
        have er1 := HRB.out.box.2.1
        have er2 := HRB.out.box.2.2.1
        have er3 := HRB.out.box.2.2.2.1
        have ez0 := HRB.out.fz 0
        have ez1 := HRB.out.fz 1
        have ez2 := HRB.out.fz 2
        have ez3 := HRB.out.fz 3
        simp only at er0 er1 er2 er3
        have hne1 : ¬ w.heap.size = w6.heap.size := by omega
        have hne2 : ¬ w6.heap.size = w.heap.size := by omega
        have hlt6 : w.heap.size < w6.heap.size := by omega
        clear KR H6 HB4 HB6
        go_wp2_with fail
        have HX : Hid (DBlk ((((w6.setCell ⟨w.heap.size, 0, none⟩ (.slice x.p1.a x.p1.n x.p1.c)).setCell ⟨w.heap.size, 1, none⟩ (.slice x.p2.a x.p2.n x.p2.c)).setCell ⟨w.heap.size, 2, none⟩ (.slice x.p3.a x.p3.n x.p3.c)).setCell ⟨w.heap.size, 3, none⟩ (.slice x.p4.a x.p4.n x.p4.c)) w.heap.size x ∧ Below w.heap.size w ((((w6.setCell ⟨w.heap.size, 0, none⟩ (.slice x.p1.a x.p1.n x.p1.c)).setCell ⟨w.heap.size, 1, none⟩ (.slice x.p2.a x.p2.n x.p2.c)).setCell ⟨w.heap.size, 2, none⟩ (.slice x.p3.a x.p3.n x.p3.c)).setCell ⟨w.heap.size, 3, none⟩ (.slice x.p4.a x.p4.n x.p4.c))) := ret4 HRB.out HBW6.out (Nat.le_refl _) x
        have HX2 : Hid (DOwn w.heap.size ((((w6.setCell ⟨w.heap.size, 0, none⟩ (.slice x.p1.a x.p1.n x.p1.c)).setCell ⟨w.heap.size, 1, none⟩ (.slice x.p2.a x.p2.n x.p2.c)).setCell ⟨w.heap.size, 2, none⟩ (.slice x.p3.a x.p3.n x.p3.c)).setCell ⟨w.heap.size, 3, none⟩ (.slice x.p4.a x.p4.n x.p4.c)) x d) := HO.out.ret4 (by omega) (by omega)
        have HY : Hid (DBlk (((((w6.setCell ⟨w.heap.size, 0, none⟩ (.slice x.p1.a x.p1.n x.p1.c)).setCell ⟨w.heap.size, 1, none⟩ (.slice x.p2.a x.p2.n x.p2.c)).setCell ⟨w.heap.size, 2, none⟩ (.slice x.p3.a x.p3.n x.p3.c)).setCell ⟨w.heap.size, 3, none⟩ (.slice x.p4.a x.p4.n x.p4.c)).alloc (.cells #[.slice x.p1.a x.p1.n x.p1.c, .slice x.p2.a x.p2.n x.p2.c, .slice x.p3.a x.p3.n x.p3.c, .slice x.p4.a x.p4.n x.p4.c] 29)) w.heap.size x ∧ DOwn w.heap.size (((((w6.setCell ⟨w.heap.size, 0, none⟩ (.slice x.p1.a x.p1.n x.p1.c)).setCell ⟨w.heap.size, 1, none⟩ (.slice x.p2.a x.p2.n x.p2.c)).setCell ⟨w.heap.size, 2, none⟩ (.slice x.p3.a x.p3.n x.p3.c)).setCell ⟨w.heap.size, 3, none⟩ (.slice x.p4.a x.p4.n x.p4.c)).alloc (.cells #[.slice x.p1.a x.p1.n x.p1.c, .slice x.p2.a x.p2.n x.p2.c, .slice x.p3.a x.p3.n x.p3.c, .slice x.p4.a x.p4.n x.p4.c] 29)) x d ∧ Below w.heap.size w (((((w6.setCell ⟨w.heap.size, 0, none⟩ (.slice x.p1.a x.p1.n x.p1.c)).setCell ⟨w.heap.size, 1, none⟩ (.slice x.p2.a x.p2.n x.p2.c)).setCell ⟨w.heap.size, 2, none⟩ (.slice x.p3.a x.p3.n x.p3.c)).setCell ⟨w.heap.size, 3, none⟩ (.slice x.p4.a x.p4.n x.p4.c)).alloc (.cells #[.slice x.p1.a x.p1.n x.p1.c, .slice x.p2.a x.p2.n x.p2.c, .slice x.p3.a x.p3.n x.p3.c, .slice x.p4.a x.p4.n x.p4.c] 29))) := ⟨((new_below ((((w6.setCell ⟨w.heap.size, 0, none⟩ (.slice x.p1.a x.p1.n x.p1.c)).setCell ⟨w.heap.size, 1, none⟩ (.slice x.p2.a x.p2.n x.p2.c)).setCell ⟨w.heap.size, 2, none⟩ (.slice x.p3.a x.p3.n x.p3.c)).setCell ⟨w.heap.size, 3, none⟩ (.slice x.p4.a x.p4.n x.p4.c)) (.cells #[.slice x.p1.a x.p1.n x.p1.c, .slice x.p2.a x.p2.n x.p2.c, .slice x.p3.a x.p3.n x.p3.c, .slice x.p4.a x.p4.n x.p4.c] 29)).block _ HX.out.1.lt).trans HX.out.1, HX2.out.stays (new_below ((((w6.setCell ⟨w.heap.size, 0, none⟩ (.slice x.p1.a x.p1.n x.p1.c)).setCell ⟨w.heap.size, 1, none⟩ (.slice x.p2.a x.p2.n x.p2.c)).setCell ⟨w.heap.size, 2, none⟩ (.slice x.p3.a x.p3.n x.p3.c)).setCell ⟨w.heap.size, 3, none⟩ (.slice x.p4.a x.p4.n x.p4.c)) (.cells #[.slice x.p1.a x.p1.n x.p1.c, .slice x.p2.a x.p2.n x.p2.c, .slice x.p3.a x.p3.n x.p3.c, .slice x.p4.a x.p4.n x.p4.c] 29)), HX.out.2.trans ((new_below ((((w6.setCell ⟨w.heap.size, 0, none⟩ (.slice x.p1.a x.p1.n x.p1.c)).setCell ⟨w.heap.size, 1, none⟩ (.slice x.p2.a x.p2.n x.p2.c)).setCell ⟨w.heap.size, 2, none⟩ (.slice x.p3.a x.p3.n x.p3.c)).setCell ⟨w.heap.size, 3, none⟩ (.slice x.p4.a x.p4.n x.p4.c)) (.cells #[.slice x.p1.a x.p1.n x.p1.c, .slice x.p2.a x.p2.n x.p2.c, .slice x.p3.a x.p3.n x.p3.c, .slice x.p4.a x.p4.n x.p4.c] 29)).mono HX.out.2.size)⟩
        generalize (((((w6.setCell ⟨w.heap.size, 0, none⟩ (.slice x.p1.a x.p1.n x.p1.c)).setCell ⟨w.heap.size, 1, none⟩ (.slice x.p2.a x.p2.n x.p2.c)).setCell ⟨w.heap.size, 2, none⟩ (.slice x.p3.a x.p3.n x.p3.c)).setCell ⟨w.heap.size, 3, none⟩ (.slice x.p4.a x.p4.n x.p4.c)).alloc (.cells #[.slice x.p1.a x.p1.n x.p1.c, .slice x.p2.a x.p2.n x.p2.c, .slice x.p3.a x.p3.n x.p3.c, .slice x.p4.a x.p4.n x.p4.c] 29)) = W9 at *
        have z0 := HY.out.1.box.1
        have z1 := HY.out.1.box.2.1
        have z2 := HY.out.1.box.2.2.1
        have z3 := HY.out.1.box.2.2.2.1
        exact bodyPost_ret (v := .tuple #[.agg #[.slice x.p1.a x.p1.n x.p1.c, .slice x.p2.a x.p2.n x.p2.c, .slice x.p3.a x.p3.n x.p3.c, .slice x.p4.a x.p4.n x.p4.c], .bool true]) (by simp [results, Tryz.results88, go_sem, z0, z1, z2, z3]) rfl ⟨x, rfl, HY.out.2⟩
end Go.Proofs.YtfkfjodfjgjbkaaGreatDoor
/- Words of a count and digits, read. -/
namespace Go.Proofs.YtfkfjodfjgjbkaaGreatDoor
open Go.ChangeShapes Go.WideShapes Go.ChangeAt Go.RowKit
set_option linter.unusedVariables false
set_option linter.unusedSimpArgs false

set_option maxRecDepth 100000 in
set_option maxHeartbeats 4000000 in
theorem readH_ok (t : Nat) (b o : Nat) (p : Wd) (ps : List Wd) (c : Nat) (oa : Option Addr) (on oc : Nat) (d : Dat) (w : World) (hw : RdW w (some ⟨b, o, none⟩) ((⟨#[92, 35]⟩, false) :: p :: ps)) (hc : ps.length + 2 ≤ c) (h63 : c ≤ 9223372036854775807)
    (h : ∀ W, Below w.heap.size w W → Calls Tryz.prog 88 #[.int .u16 (t : Int), .slice (some ⟨b, o + 2, none⟩) (ps.length + 1) (c - 1)] W fun e w' => ∃ x : DA, e = .returned (.tuple #[.agg #[.slice x.p1.a x.p1.n x.p1.c, .slice x.p2.a x.p2.n x.p2.c, .slice x.p3.a x.p3.n x.p3.c, .slice x.p4.a x.p4.n x.p4.c], .bool true]) ∧ Hid (DOwn W.heap.size w' x d ∧ Below W.heap.size W w')) :
    Calls Tryz.prog 61 #[.int .u16 (t : Int), .slice (some ⟨b, o, none⟩) (ps.length + 2) c, .slice oa on oc] w fun e w' => ∃ x : DA, e = .returned (.tuple #[.agg #[.slice x.p1.a x.p1.n x.p1.c, .slice x.p2.a x.p2.n x.p2.c, .slice x.p3.a x.p3.n x.p3.c, .slice x.p4.a x.p4.n x.p4.c], .bool true]) ∧ Hid (DOwn w.heap.size w' x d ∧ Below w.heap.size w w') := by
  obtain ⟨b', o', e', hb, c1, c2, -⟩ := hw.head
  injection e' with e'
  injection e' with e1 e2
  subst e1; subst e2
  have HZ : Hid (Below w.heap.size w (nilB w) ∧ DBlk (nilB w) w.heap.size nilDA) := ⟨new_below _ _, heap_alloc_new _ _⟩
  have hs0 : (nilB w).heap.size = w.heap.size + 1 := by simp [nilB]
  have K := Lib.hid (h _ HZ.out.1)
  obtain ⟨N, hN⟩ : ∃ N, ps.length = N := ⟨_, rfl⟩
  rw [hN] at hc K ⊢
  have hN0 : (0 : Int) < (N : Int) + 2 := by omega
  have hc2 : ¬ (c : Int) - 1 = 0 := by omega
  have hc1' : ¬ c - 1 = 0 := by omega
  have hsub : N + 2 - 1 = N + 1 := by omega
  have hsub2 : (N : Int) + 2 - 1 = (N : Int) + 1 := by omega
  clear h hw hN
  go_enter Tryz.func61, Tryz.ntmps61
  go_wp2_with fail
  refine K.out.mono ?_
  rintro e w6 ⟨x, rfl, H6⟩
  have HB6 : Hid (Below (w.heap.size + 1) (nilB w) w6) := by rw [← hs0]; exact H6.out.2
  have hs6 : w.heap.size + 1 ≤ w6.heap.size := by have := HB6.out.size; rw [hs0] at this; exact this
  have HRB : Hid (DBlk w6 w.heap.size nilDA) := (HB6.out.block _ (by omega)).trans HZ.out.2
  have HBW6 : Hid (Below w.heap.size w w6) := HZ.out.1.trans (HB6.out.mono (by omega))
  have HO : Hid (DOwn (w.heap.size + 1) w6 x d) := by rw [← hs0]; exact H6.out.1
  have er0 := HRB.out.box.1
  have er1 := HRB.out.box.2.1
  have er2 := HRB.out.box.2.2.1
  have er3 := HRB.out.box.2.2.2.1
  have ez0 := HRB.out.fz 0
  have ez1 := HRB.out.fz 1
  have ez2 := HRB.out.fz 2
  have ez3 := HRB.out.fz 3
  simp only at er0 er1 er2 er3
  clear K H6 HB6
  go_wp2_with fail
  have HX : Hid (DBlk ((((w6.setCell ⟨w.heap.size, 0, none⟩ (.slice x.p1.a x.p1.n x.p1.c)).setCell ⟨w.heap.size, 1, none⟩ (.slice x.p2.a x.p2.n x.p2.c)).setCell ⟨w.heap.size, 2, none⟩ (.slice x.p3.a x.p3.n x.p3.c)).setCell ⟨w.heap.size, 3, none⟩ (.slice x.p4.a x.p4.n x.p4.c)) w.heap.size x ∧ Below w.heap.size w ((((w6.setCell ⟨w.heap.size, 0, none⟩ (.slice x.p1.a x.p1.n x.p1.c)).setCell ⟨w.heap.size, 1, none⟩ (.slice x.p2.a x.p2.n x.p2.c)).setCell ⟨w.heap.size, 2, none⟩ (.slice x.p3.a x.p3.n x.p3.c)).setCell ⟨w.heap.size, 3, none⟩ (.slice x.p4.a x.p4.n x.p4.c))) := ret4 HRB.out HBW6.out (Nat.le_refl _) x
  have HX2 : Hid (DOwn w.heap.size ((((w6.setCell ⟨w.heap.size, 0, none⟩ (.slice x.p1.a x.p1.n x.p1.c)).setCell ⟨w.heap.size, 1, none⟩ (.slice x.p2.a x.p2.n x.p2.c)).setCell ⟨w.heap.size, 2, none⟩ (.slice x.p3.a x.p3.n x.p3.c)).setCell ⟨w.heap.size, 3, none⟩ (.slice x.p4.a x.p4.n x.p4.c)) x d) := HO.out.ret4 (by omega) (by omega)
  generalize ((((w6.setCell ⟨w.heap.size, 0, none⟩ (.slice x.p1.a x.p1.n x.p1.c)).setCell ⟨w.heap.size, 1, none⟩ (.slice x.p2.a x.p2.n x.p2.c)).setCell ⟨w.heap.size, 2, none⟩ (.slice x.p3.a x.p3.n x.p3.c)).setCell ⟨w.heap.size, 3, none⟩ (.slice x.p4.a x.p4.n x.p4.c)) = W9 at *
  have z0 := HX.out.1.box.1
  have z1 := HX.out.1.box.2.1
  have z2 := HX.out.1.box.2.2.1
  have z3 := HX.out.1.box.2.2.2.1
  exact bodyPost_ret (v := .tuple #[.agg #[.slice x.p1.a x.p1.n x.p1.c, .slice x.p2.a x.p2.n x.p2.c, .slice x.p3.a x.p3.n x.p3.c, .slice x.p4.a x.p4.n x.p4.c], .bool true]) (by simp [results, Tryz.results61, go_sem, z0, z1, z2, z3]) rfl ⟨x, rfl, ⟨HX2.out, HX.out.2⟩⟩
set_option maxRecDepth 100000 in
set_option maxHeartbeats 4000000 in
theorem readH_no (t : Nat) (b o : Nat) (p : Wd) (ps : List Wd) (c : Nat) (oa : Option Addr) (on oc : Nat) (w : World) (hw : RdW w (some ⟨b, o, none⟩) ((⟨#[92, 35]⟩, false) :: p :: ps)) (hc : ps.length + 2 ≤ c) (h63 : c ≤ 9223372036854775807)
    (h : ∀ W, Below w.heap.size w W → Calls Tryz.prog 88 #[.int .u16 (t : Int), .slice (some ⟨b, o + 2, none⟩) (ps.length + 1) (c - 1)] W fun e w' => ∃ x : DA, e = .returned (.tuple #[.agg #[.slice x.p1.a x.p1.n x.p1.c, .slice x.p2.a x.p2.n x.p2.c, .slice x.p3.a x.p3.n x.p3.c, .slice x.p4.a x.p4.n x.p4.c], .bool false]) ∧ Hid (Below W.heap.size W w')) :
    Calls Tryz.prog 61 #[.int .u16 (t : Int), .slice (some ⟨b, o, none⟩) (ps.length + 2) c, .slice oa on oc] w fun e w' => ∃ x : DA, e = .returned (.tuple #[.agg #[.slice x.p1.a x.p1.n x.p1.c, .slice x.p2.a x.p2.n x.p2.c, .slice x.p3.a x.p3.n x.p3.c, .slice x.p4.a x.p4.n x.p4.c], .bool false]) ∧ Hid (Below w.heap.size w w') := by
  obtain ⟨b', o', e', hb, c1, c2, -⟩ := hw.head
  injection e' with e'
  injection e' with e1 e2
  subst e1; subst e2
  have HZ : Hid (Below w.heap.size w (nilB w) ∧ DBlk (nilB w) w.heap.size nilDA) := ⟨new_below _ _, heap_alloc_new _ _⟩
  have hs0 : (nilB w).heap.size = w.heap.size + 1 := by simp [nilB]
  have K := Lib.hid (h _ HZ.out.1)
  obtain ⟨N, hN⟩ : ∃ N, ps.length = N := ⟨_, rfl⟩
  rw [hN] at hc K ⊢
  have hN0 : (0 : Int) < (N : Int) + 2 := by omega
  have hc2 : ¬ (c : Int) - 1 = 0 := by omega
  have hc1' : ¬ c - 1 = 0 := by omega
  have hsub : N + 2 - 1 = N + 1 := by omega
  have hsub2 : (N : Int) + 2 - 1 = (N : Int) + 1 := by omega
  clear h hw hN
  go_enter Tryz.func61, Tryz.ntmps61
  go_wp2_with fail
  refine K.out.mono ?_
  rintro e w6 ⟨x, rfl, H6⟩
  have HB6 : Hid (Below (w.heap.size + 1) (nilB w) w6) := by rw [← hs0]; exact H6.out
  have hs6 : w.heap.size + 1 ≤ w6.heap.size := by have := HB6.out.size; rw [hs0] at this; exact this
  have HRB : Hid (DBlk w6 w.heap.size nilDA) := (HB6.out.block _ (by omega)).trans HZ.out.2
  have HBW6 : Hid (Below w.heap.size w w6) := HZ.out.1.trans (HB6.out.mono (by omega))
  have er0 := HRB.out.box.1
  have er1 := HRB.out.box.2.1
  have er2 := HRB.out.box.2.2.1
  have er3 := HRB.out.box.2.2.2.1
  have ez0 := HRB.out.fz 0
  have ez1 := HRB.out.fz 1
  have ez2 := HRB.out.fz 2
  have ez3 := HRB.out.fz 3
  simp only at er0 er1 er2 er3
  clear K H6 HB6
  go_wp2_with fail
  have HX : Hid (DBlk ((((w6.setCell ⟨w.heap.size, 0, none⟩ (.slice x.p1.a x.p1.n x.p1.c)).setCell ⟨w.heap.size, 1, none⟩ (.slice x.p2.a x.p2.n x.p2.c)).setCell ⟨w.heap.size, 2, none⟩ (.slice x.p3.a x.p3.n x.p3.c)).setCell ⟨w.heap.size, 3, none⟩ (.slice x.p4.a x.p4.n x.p4.c)) w.heap.size x ∧ Below w.heap.size w ((((w6.setCell ⟨w.heap.size, 0, none⟩ (.slice x.p1.a x.p1.n x.p1.c)).setCell ⟨w.heap.size, 1, none⟩ (.slice x.p2.a x.p2.n x.p2.c)).setCell ⟨w.heap.size, 2, none⟩ (.slice x.p3.a x.p3.n x.p3.c)).setCell ⟨w.heap.size, 3, none⟩ (.slice x.p4.a x.p4.n x.p4.c))) := ret4 HRB.out HBW6.out (Nat.le_refl _) x
  generalize ((((w6.setCell ⟨w.heap.size, 0, none⟩ (.slice x.p1.a x.p1.n x.p1.c)).setCell ⟨w.heap.size, 1, none⟩ (.slice x.p2.a x.p2.n x.p2.c)).setCell ⟨w.heap.size, 2, none⟩ (.slice x.p3.a x.p3.n x.p3.c)).setCell ⟨w.heap.size, 3, none⟩ (.slice x.p4.a x.p4.n x.p4.c)) = W9 at *
  have z0 := HX.out.1.box.1
  have z1 := HX.out.1.box.2.1
  have z2 := HX.out.1.box.2.2.1
  have z3 := HX.out.1.box.2.2.2.1
  exact bodyPost_ret (v := .tuple #[.agg #[.slice x.p1.a x.p1.n x.p1.c, .slice x.p2.a x.p2.n x.p2.c, .slice x.p3.a x.p3.n x.p3.c, .slice x.p4.a x.p4.n x.p4.c], .bool false]) (by simp [results, Tryz.results61, go_sem, z0, z1, z2, z3]) rfl ⟨x, rfl, HX.out.2⟩
end Go.Proofs.YtfkfjodfjgjbkaaGreatDoor
/- Words of a count and digits that don't agree. -/
namespace Go.Proofs.YtfkfjodfjgjbkaaGreatDoor
open Go.ChangeShapes Go.WideShapes Go.ChangeAt Go.RowKit
set_option linter.unusedVariables false
set_option linter.unusedSimpArgs false

set_option maxRecDepth 100000 in
set_option maxHeartbeats 4000000 in
theorem hashed_no (t : Nat) (b o : Nat) (num : ByteArray) (qn : Bool) (ps : List Wd) (c : Nat) (w : World) (hw : RdW w (some ⟨b, o, none⟩) ((num, qn) :: ps)) (hc : ps.length + 1 ≤ c) (h63 : c ≤ 9223372036854775807) (m : Nat) (hns : num.size ≤ 1000000) (hm : xnum (nums num) (2 ^ 32) = some m)
    (n : Nat) (hn : (catL ps).length = 2 * n) (hs : (catL ps).length ≤ 131070) (ho : ∀ k, k < n → okp (nums ⟨(catL ps).toArray⟩) k) (hmn : m ≠ n) :
    Calls Tryz.prog 88 #[.int .u16 (t : Int), .slice (some ⟨b, o, none⟩) (ps.length + 1) c] w fun e w' => e = .returned (.tuple #[.agg #[.slice none 0 0, .slice none 0 0, .slice none 0 0, .slice none 0 0], .bool false]) ∧ Hid (Below w.heap.size w w') := by
  obtain ⟨b', o', e', hb, c1, c2, -⟩ := hw.head
  injection e' with e'
  injection e' with e1 e2
  subst e1; subst e2
  have HW : Hid (RdW w (some ⟨b, o, none⟩) ((num, qn) :: ps)) := hw
  have HZ : Hid (Below w.heap.size w (nilB w) ∧ DBlk (nilB w) w.heap.size nilDA) := ⟨new_below _ _, heap_alloc_new _ _⟩
  have hs0 : (nilB w).heap.size = w.heap.size + 1 := by simp [nilB]
  have HG0 : Hid (G2 (w.heap.size + 1) ((nilB w).alloc (.cells #[.pointer none, .slice none 0 0] 81)) (w.heap.size + 1) [] ∧ Below (w.heap.size + 1) (nilB w) ((nilB w).alloc (.cells #[.pointer none, .slice none 0 0] 81))) := by
    have h1 : BB ((nilB w).alloc (.cells #[.pointer none, .slice none 0 0] 81)) (nilB w).heap.size (.pointer none) (.slice none 0 0) := heap_alloc_new _ _
    have h2 := new_below (nilB w) (.cells #[.pointer none, .slice none 0 0] 81)
    rw [hs0] at h1 h2
    exact ⟨.inl ⟨h1, rfl⟩, h2⟩
  have KN : Hid (∀ W, Calls Tryz.prog 96 #[.string num, .int .i64 32] W fun e w' => e = .returned (.tuple #[.int .u32 (m : Int), .bool true]) ∧ Hid (Below W.heap.size W w')) := fun W => num_yes 32 (.inr rfl) num (by omega) m hm W
  have hm32 := (xnum_some hm).2
  have hp32 : (2 : Nat) ^ 32 = 4294967296 := by decide
  rw [hp32] at hm32
  have hn2 : n ≤ 65535 := by omega
  have hsz : (⟨(catL ps).toArray⟩ : ByteArray).size = (catL ps).length := by simp [ByteArray.size]
  have KU : Hid (∀ W, Calls Tryz.prog 115 #[.string ⟨(catL ps).toArray⟩] W fun e w' => ∃ ao ys, e = .returned (.tuple #[.slice ao n ys.length, .int .i64 0]) ∧ Hid (OwnA W.heap.size w' ao n ys ∧ ys.take n = prs (nums ⟨(catL ps).toArray⟩) n ∧ Below W.heap.size W w')) := fun W =>
    (unhex_even ⟨(catL ps).toArray⟩ n W (by rw [hsz]; exact hn) (by rw [hsz]; exact hs)).mono (by
      rintro e w' (⟨⟨k, hk, hno⟩, -⟩ | ⟨-, ao, ys, he, h1, h2, h3⟩)
      · exact absurd (ho k hk) hno
      · exact ⟨ao, ys, he, h1, h2, h3⟩)
  have HS : Hid ((catL ps).length ≤ 131070) := hs
  clear hw ho hm hn hs hsz
  have hmn1 : ((m : Int) != (n : Int)) = true := by rw [bne_iff_ne]; omega
  obtain ⟨N, hN⟩ : ∃ N, ps.length = N := ⟨_, rfl⟩
  have HN : Hid (ps.length = N) := hN
  rw [hN] at hc ⊢
  clear hN
  generalize hL : (⟨(catL ps).toArray⟩ : ByteArray) = Lh at *
  generalize hzs : prs (nums Lh) n = zs at *
  by_cases hc1 : c = 1
  · have hN0 : N = 0 := by omega
    subst hc1; subst hN0
    go_enter Tryz.func88, Tryz.ntmps88
    go_wp2_with fail
    go_loopw [21] (fun y wr => ∃ k : Nat, k ≤ 0 ∧ y = .int .i64 k ∧ Hid (G2 (w.heap.size + 1) wr (w.heap.size + 1) (Lib.byteCells (catL (ps.take k))) ∧ Below (w.heap.size + 1) (nilB w) wr)) (fun y _ => 0 - (intOf y).toNat)
    case atStart => exact ⟨0, Nat.zero_le _, rfl, HG0.out⟩
    case round =>
      obtain ⟨k, hk, rfl, HR⟩ := hrel
      have HBW : Hid (Below w.heap.size w wr) := HZ.out.1.trans (HR.out.2.mono (by omega))
      by_cases hlt : k < 0
      · exact absurd hlt (by omega)
      · have hge : ¬ (k : Int) < (0 : Int) := by omega
        have hkn : k = 0 := by omega
        subst hkn
        have hall : ps.take 0 = ps := List.take_of_length_le (by rw [HN.out]; exact Nat.le_refl _)
        have HG : Hid (G2 (w.heap.size + 1) wr (w.heap.size + 1) (Lib.byteCells (catL ps)) ∧ Below (w.heap.size + 1) (nilB w) wr) := by rw [hall] at HR; exact HR
        have q1 : wr.cell? ⟨b, o, none⟩ = some (.string num) := (HBW.out.cell (p := ⟨b, o, none⟩) hb).trans c1
        clear HR hall HBW
        go_wp2_with fail
        refine (KN.out _).mono ?_
        rintro e w2 ⟨rfl, H2⟩
        have HG2 : Hid (G2 (w.heap.size + 1) w2 (w.heap.size + 1) (Lib.byteCells (catL ps)) ∧ Below (w.heap.size + 1) (nilB w) w2) := ⟨HG.out.1.below H2.out, HG.out.2.trans (H2.out.mono (by have := HG.out.2.size; rw [hs0] at this; exact this))⟩
        have KS : Hid (Calls Tryz.prog 49 #[.pointer (some ⟨w.heap.size + 1, 0, none⟩)] w2 fun e w' => e = .returned (.string Lh) ∧ Hid (Below (w.heap.size + 1) w2 w')) := by
          have := wstringU (w.heap.size + 1) (w.heap.size + 1) (catL ps) w2 HG2.out.1 (by have := HS.out; omega)
          rw [hL] at this
          exact this
        clear HG H2
        go_wp2_with fail
        refine KS.out.mono ?_
        rintro e w3 ⟨rfl, H3⟩
        have HB3 : Hid (Below (w.heap.size + 1) (nilB w) w3) := HG2.out.2.trans H3.out
        clear KS H3 HG2
        go_wp2_with fail
        refine (KU.out _).mono ?_
        rintro e w4 ⟨ao, ys, rfl, H4⟩
        have HB4 : Hid (Below (w.heap.size + 1) (nilB w) w4) := HB3.out.trans (H4.out.2.2.mono (by have := HB3.out.size; rw [hs0] at this; exact this))
        have hs4 : w.heap.size + 1 ≤ w4.heap.size := by have := HB4.out.size; rw [hs0] at this; exact this
        have HRB : Hid (DBlk w4 w.heap.size nilDA) := (HB4.out.block _ (by omega)).trans HZ.out.2
        have HBW6 : Hid (Below w.heap.size w w4) := HZ.out.1.trans (HB4.out.mono (by omega))
        have er0 := HRB.out.box.1
        have er1 := HRB.out.box.2.1
        have er2 := HRB.out.box.2.2.1
        have er3 := HRB.out.box.2.2.2.1
        have ez0 := HRB.out.fz 0
        have ez1 := HRB.out.fz 1
        have ez2 := HRB.out.fz 2
        have ez3 := HRB.out.fz 3
        simp only at er0 er1 er2 er3
        clear HB3 H4 KU KN
        go_wp2_with fail
        have HX : Hid (DBlk ((((w4.setCell ⟨w.heap.size, 0, none⟩ (.slice none 0 0)).setCell ⟨w.heap.size, 1, none⟩ (.slice none 0 0)).setCell ⟨w.heap.size, 2, none⟩ (.slice none 0 0)).setCell ⟨w.heap.size, 3, none⟩ (.slice none 0 0)) w.heap.size nilDA ∧ Below w.heap.size w ((((w4.setCell ⟨w.heap.size, 0, none⟩ (.slice none 0 0)).setCell ⟨w.heap.size, 1, none⟩ (.slice none 0 0)).setCell ⟨w.heap.size, 2, none⟩ (.slice none 0 0)).setCell ⟨w.heap.size, 3, none⟩ (.slice none 0 0))) := ret4 HRB.out HBW6.out (Nat.le_refl _) nilDA
        generalize ((((w4.setCell ⟨w.heap.size, 0, none⟩ (.slice none 0 0)).setCell ⟨w.heap.size, 1, none⟩ (.slice none 0 0)).setCell ⟨w.heap.size, 2, none⟩ (.slice none 0 0)).setCell ⟨w.heap.size, 3, none⟩ (.slice none 0 0)) = W9 at *
        have z0 := HX.out.1.box.1
        have z1 := HX.out.1.box.2.1
        have z2 := HX.out.1.box.2.2.1
        have z3 := HX.out.1.box.2.2.2.1
        exact bodyPost_ret (v := .tuple #[.agg #[.slice none 0 0, .slice none 0 0, .slice none 0 0, .slice none 0 0], .bool false]) (by simp [results, Tryz.results88, go_sem, z0, z1, z2, z3]) rfl ⟨rfl, HX.out.2⟩
  · have hc1' : ¬ c - 1 = 0 := by omega
    have hc2 : ¬ (c : Int) - 1 = 0 := by omega
    go_enter Tryz.func88, Tryz.ntmps88
    go_wp2_with fail
    go_loopw [21] (fun y wr => ∃ k : Nat, k ≤ N ∧ y = .int .i64 k ∧ Hid (G2 (w.heap.size + 1) wr (w.heap.size + 1) (Lib.byteCells (catL (ps.take k))) ∧ Below (w.heap.size + 1) (nilB w) wr)) (fun y _ => N - (intOf y).toNat)
    case atStart => exact ⟨0, Nat.zero_le _, rfl, HG0.out⟩
    case round =>
      obtain ⟨k, hk, rfl, HR⟩ := hrel
      have HBW : Hid (Below w.heap.size w wr) := HZ.out.1.trans (HR.out.2.mono (by omega))
      by_cases hlt : k < N
      · have hlt' : (k : Int) < (N : Int) := by omega
        have hkp : k < ps.length := by rw [HN.out]; exact hlt
        obtain ⟨-, r1, r2⟩ := HW.out.at k hkp
        have q1 : wr.cell? ⟨b, o + 2 + k * 2, none⟩ = some (.string ps[k].1) := (HBW.out.cell (p := ⟨b, o + 2 + k * 2, none⟩) hb).trans r1
        have q2 : wr.cell? ⟨b, o + 2 + k * 2 + 1, none⟩ = some (.bool ps[k].2) := (HBW.out.cell (p := ⟨b, o + 2 + k * 2 + 1, none⟩) hb).trans r2
        have HT := Lib.hid (catL_snoc ps k hkp)
        have HL : Hid ((Lib.byteCells (catL (ps.take k))).length + ps[k].1.size ≤ 140737488355328) := by
          show _ ≤ _
          have h1 := catL_le ps (k + 1)
          rw [catL_snoc ps k hkp, List.length_append] at h1
          have h2 := HS.out
          rw [Lib.byteCells_length]
          have h3 : ps[k].1.data.toList.length = ps[k].1.size := rfl
          omega
        clear r1 r2
        generalize ps[k].1 = s at *
        generalize ps[k].2 = q at *
        go_wp2_with fail
        have hnb : Below wr.heap.size wr (wr.alloc (.cells #[.string s, .bool q] 59)) := new_below _ _
        have hbz : w.heap.size + 1 ≤ wr.heap.size := by have := HR.out.2.size; rw [hs0] at this; exact this
        have KW := Lib.hid (wstrU (w.heap.size + 1) (w.heap.size + 1) (Lib.byteCells (catL (ps.take k))) s (wr.alloc (.cells #[.string s, .bool q] 59)) (HR.out.1.below hnb) (Nat.le_refl _) HL.out)
        refine KW.out.mono ?_
        rintro e w2 ⟨rfl, H2⟩
        go_wp2_with fail
        refine ⟨⟨k + 1, by omega, by go_num, ?_, ?_⟩, by simp [intOf]; omega⟩
        · rw [HT.out, cells_app]; exact .inr H2.out.1
        · exact (HR.out.2.trans (hnb.mono hbz)).trans H2.out.2
      · have hge : ¬ (k : Int) < (N : Int) := by omega
        have hkn : k = N := by omega
        subst hkn
        have hall : ps.take k = ps := List.take_of_length_le (by rw [HN.out]; exact Nat.le_refl _)
        have HG : Hid (G2 (w.heap.size + 1) wr (w.heap.size + 1) (Lib.byteCells (catL ps)) ∧ Below (w.heap.size + 1) (nilB w) wr) := by rw [hall] at HR; exact HR
        have q1 : wr.cell? ⟨b, o, none⟩ = some (.string num) := (HBW.out.cell (p := ⟨b, o, none⟩) hb).trans c1
        clear HR hall HBW
        go_wp2_with fail
        refine (KN.out _).mono ?_
        rintro e w2 ⟨rfl, H2⟩
        have HG2 : Hid (G2 (w.heap.size + 1) w2 (w.heap.size + 1) (Lib.byteCells (catL ps)) ∧ Below (w.heap.size + 1) (nilB w) w2) := ⟨HG.out.1.below H2.out, HG.out.2.trans (H2.out.mono (by have := HG.out.2.size; rw [hs0] at this; exact this))⟩
        have KS : Hid (Calls Tryz.prog 49 #[.pointer (some ⟨w.heap.size + 1, 0, none⟩)] w2 fun e w' => e = .returned (.string Lh) ∧ Hid (Below (w.heap.size + 1) w2 w')) := by
          have := wstringU (w.heap.size + 1) (w.heap.size + 1) (catL ps) w2 HG2.out.1 (by have := HS.out; omega)
          rw [hL] at this
          exact this
        clear HG H2
        go_wp2_with fail
        refine KS.out.mono ?_
        rintro e w3 ⟨rfl, H3⟩
        have HB3 : Hid (Below (w.heap.size + 1) (nilB w) w3) := HG2.out.2.trans H3.out
        clear KS H3 HG2
        go_wp2_with fail
        refine (KU.out _).mono ?_
        rintro e w4 ⟨ao, ys, rfl, H4⟩
        have HB4 : Hid (Below (w.heap.size + 1) (nilB w) w4) := HB3.out.trans (H4.out.2.2.mono (by have := HB3.out.size; rw [hs0] at this; exact this))
        have hs4 : w.heap.size + 1 ≤ w4.heap.size := by have := HB4.out.size; rw [hs0] at this; exact this
        have HRB : Hid (DBlk w4 w.heap.size nilDA) := (HB4.out.block _ (by omega)).trans HZ.out.2
        have HBW6 : Hid (Below w.heap.size w w4) := HZ.out.1.trans (HB4.out.mono (by omega))
        have er0 := HRB.out.box.1
        have er1 := HRB.out.box.2.1
        have er2 := HRB.out.box.2.2.1
        have er3 := HRB.out.box.2.2.2.1
        have ez0 := HRB.out.fz 0
        have ez1 := HRB.out.fz 1
        have ez2 := HRB.out.fz 2
        have ez3 := HRB.out.fz 3
        simp only at er0 er1 er2 er3
        clear HB3 H4 KU KN
        go_wp2_with fail
        have HX : Hid (DBlk ((((w4.setCell ⟨w.heap.size, 0, none⟩ (.slice none 0 0)).setCell ⟨w.heap.size, 1, none⟩ (.slice none 0 0)).setCell ⟨w.heap.size, 2, none⟩ (.slice none 0 0)).setCell ⟨w.heap.size, 3, none⟩ (.slice none 0 0)) w.heap.size nilDA ∧ Below w.heap.size w ((((w4.setCell ⟨w.heap.size, 0, none⟩ (.slice none 0 0)).setCell ⟨w.heap.size, 1, none⟩ (.slice none 0 0)).setCell ⟨w.heap.size, 2, none⟩ (.slice none 0 0)).setCell ⟨w.heap.size, 3, none⟩ (.slice none 0 0))) := ret4 HRB.out HBW6.out (Nat.le_refl _) nilDA
        generalize ((((w4.setCell ⟨w.heap.size, 0, none⟩ (.slice none 0 0)).setCell ⟨w.heap.size, 1, none⟩ (.slice none 0 0)).setCell ⟨w.heap.size, 2, none⟩ (.slice none 0 0)).setCell ⟨w.heap.size, 3, none⟩ (.slice none 0 0)) = W9 at *
        have z0 := HX.out.1.box.1
        have z1 := HX.out.1.box.2.1
        have z2 := HX.out.1.box.2.2.1
        have z3 := HX.out.1.box.2.2.2.1
        exact bodyPost_ret (v := .tuple #[.agg #[.slice none 0 0, .slice none 0 0, .slice none 0 0, .slice none 0 0], .bool false]) (by simp [results, Tryz.results88, go_sem, z0, z1, z2, z3]) rfl ⟨rfl, HX.out.2⟩
end Go.Proofs.YtfkfjodfjgjbkaaGreatDoor
