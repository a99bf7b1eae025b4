/- Texts laid together, in parts: Mwd Mwe Mwf Mwg Mwh Sqo Mwi Mwj Mwl. -/
import Derived.Test.YteplffhfeoephaaGreatWki
import Derived.Deep.CutBlock
import Derived.Deep.RegionHeld3
import Derived.Deep.QuietTactic
import Derived.BigQuiet
set_option maxRecDepth 100000
namespace Go.Proofs.YteplffhfeoephaaGreat
open Go.ChangeShapes Go.WideShapes Go.ChangeAt Go.RowKit Go.Maps
set_option linter.unusedVariables false
set_option linter.unusedSimpArgs false
/-- What the writer's calls leave as it was. -/
structure Fm (B g : Nat) (w w' : World) : Prop where
  below : Below B w w'
  oth : ∀ (j : Nat) (cs : Array Value) (t : TypeId) (fr : Nat × Nat), w.heap[j]? = some (Obj.cells cs t fr) → t ≠ 5 → t ≠ 163 → t ≠ 127 → w'.heap[j]? = w.heap[j]?
  fx : Fx g w w'
theorem Fm.refl (B g : Nat) (w : World) : Fm B g w w := ⟨Below.refl _ _, fun _ _ _ _ _ _ _ _ => rfl, Fx.refl _ _⟩
theorem Fm.trans {B g : Nat} {a b c : World} (h : Fm B g a b) (k : Fm B g b c) : Fm B g a c :=
  ⟨h.below.trans k.below, fun j cs t fr hj h5 h6 h7 => by
    have e := h.oth j cs t fr hj h5 h6 h7
    exact (k.oth j cs t fr (e.trans hj) h5 h6 h7).trans e, h.fx.trans k.fx⟩
theorem Fm.of {B g : Nat} {w w' : World} (h : Below w.heap.size w w') (hB : B ≤ w.heap.size) (hg : g < w.heap.size) : Fm B g w w' :=
  ⟨h.mono hB, fun j cs t fr hj _ _ _ => h.block j (box_lt hj), Fx.of h hg⟩
theorem Fm.fr {B g : Nat} {w w' : World} (h : Fr B w w') (hx : Fx g w w') : Fm B g w w' :=
  ⟨h.below, fun j cs t fr hj h5 h6 _ => h.oth j cs t fr hj h5 h6, hx⟩
/-- A message's writer at h, over the writer at g: its box, with its error. -/
def WBx (w : World) (h g : Nat) (er : Int) : Prop := w.heap[h]? = some (.cells #[.pointer (some ⟨g, 0, none⟩), .int .i64 er] 127)
structure WOk (B : Nat) (w : World) (h g : Nat) (tx : List Int) (pl : PLs) : Prop where
  box : WBx w h g 0
  wr : Wr B w g tx pl
  len : tx.length ≤ 65535
  pls : ∀ k p, (k, p) ∈ pl → p < 16384
  num : pl.length ≤ tx.length
structure WNo (B : Nat) (w : World) (h g : Nat) : Prop where
  box : WBx w h g 3
  wr : ∃ tx pl, Wr B w g tx pl ∧ tx.length ≤ 65535
/-- Where a message's writer stands. -/
def WAt (B : Nat) (w : World) (h g : Nat) : WSt → Prop
  | some s => WOk B w h g s.1 s.2
  | none => WNo B w h g
def MW (B : Nat) (w : World) (h g : Nat) (s : WSt) : Prop := B ≤ h ∧ B ≤ w.heap.size ∧ WAt B w h g s
theorem WBx.below {w w' : World} {h g : Nat} {er : Int} (hx : WBx w h g er) (hb : Below w.heap.size w w') : WBx w' h g er := (hb.block h (box_lt hx)).trans hx
theorem MW.below {B : Nat} {w w' : World} {h g : Nat} {s : WSt} (hm : MW B w h g s) (hb : Below w.heap.size w w') : MW B w' h g s := by
  obtain ⟨h1, h2, h3⟩ := hm
  refine ⟨h1, Nat.le_trans h2 hb.size, ?_⟩
  cases s with
  | none => obtain ⟨a, tx, pl, b, c⟩ := h3; exact ⟨a.below hb, tx, pl, b.below hb, c⟩
  | some s => exact ⟨h3.box.below hb, h3.wr.below hb, h3.len, h3.pls, h3.num⟩
theorem MW.g {B : Nat} {w : World} {h g : Nat} {s : WSt} (hm : MW B w h g s) : g < w.heap.size := by
  obtain ⟨h1, h2, h3⟩ := hm
  cases s with
  | none => obtain ⟨a, tx, pl, ⟨v, ys, mb, b⟩, c⟩ := h3; exact box_lt b.box
  | some s => obtain ⟨v, ys, mb, b⟩ := h3.wr; exact box_lt b.box
theorem MW.tb {B : Nat} {w : World} {h g : Nat} {s : WSt} (hm : MW B w h g s) : ∀ j, tbk w g = some j → j < w.heap.size := by
  intro j hj
  obtain ⟨h1, h2, h3⟩ := hm
  have key : ∀ tx pl, Wr B w g tx pl → j < w.heap.size := by
    rintro tx pl ⟨v, ys, mb, b⟩
    rw [tbk_box b.box] at hj
    obtain ⟨_, cs, e⟩ := b.own.blk5 j hj
    exact box_lt e
  cases s with
  | none => obtain ⟨a, tx, pl, b, c⟩ := h3; exact key _ _ b
  | some s => exact key _ _ h3.wr
/-- An error is stored. -/
theorem store_err {B : Nat} {w : World} {h g : Nat} {tx : List Int} {pl : PLs} {er0 : Int} (hb : WBx w h g er0) (hW : Wr B w g tx pl) (hB : B ≤ h) (er : Int) :
    WBx (w.setCell ⟨h, 1, none⟩ (.int .i64 er)) h g er ∧ Wr B (w.setCell ⟨h, 1, none⟩ (.int .i64 er)) g tx pl ∧ Fm B g w (w.setCell ⟨h, 1, none⟩ (.int .i64 er)) := by
  have hgr := grown_set w h 1 (.int .i64 er)
  have hne : g ≠ h := by
    rintro rfl
    obtain ⟨v, ys, mb, b⟩ := hW
    have := b.box
    rw [hb] at this
    injection this with this
    injection this with _ this _
    exact absurd this (by decide)
  refine ⟨box_set hb 1 _, hW.row hgr (fun j e => ?_), (Below.refl B w).setCell hB _, fun j cs t fr hj _ _ h7 => hgr.block j (box_lt hj) (fun e => ?_), ⟨hgr.size, fun j cs fr hj _ => hgr.block j (box_lt hj) (fun e => ?_), .inl (tbk_same (hgr.block g ?_ (fun e => ?_)))⟩⟩
  · injection e with e
    subst e
    exact ⟨_, 127, (0, 0), hb, by decide, by decide⟩
  · injection e with e
    subst e
    rw [hb] at hj
    cases hj
    exact h7 rfl
  · injection e with e
    subst e
    rw [hb] at hj
    cases hj
  · obtain ⟨v, ys, mb, b⟩ := hW; exact box_lt b.box
  · injection e with e
    exact hne e
set_option maxRecDepth 100000 in
set_option maxHeartbeats 1000000 in
theorem mw_bytes (B h g : Nat) (s : WSt) (a : Option Addr) (m c : Nat) (zs : List Int) (w : World) (hM : MW B w h g s) (hr : Rd w a zs) (hl : zs.length = m) (hc : a = none → c = 0) (hm : m ≤ 140737488355328) :
    Calls Tryz.prog 79 #[.pointer (some ⟨h, 0, none⟩), .slice a m c] w fun e w' => e = .returned (.tuple #[]) ∧ Hid (MW B w' h g (prun (pby zs) s) ∧ Fm B g w w') := by
  have HM : Hid (MW B w h g s) := hM
  obtain ⟨hB, hB2, hM⟩ := hM
  cases s with
  | none =>
    have c1 : w.cell? ⟨h, 1, none⟩ = some (.int .i64 3) := box_cell hM.box 1 _ rfl
    have hh := box_lt hM.box
    clear hM hr
    go_enter Tryz.func79, Tryz.ntmps79
    go_wp2
    go_end0
    exact ⟨rfl, HM.out, Fm.refl _ _ _⟩
  | some s =>
    obtain ⟨tx, pl⟩ := s
    have c0 : w.cell? ⟨h, 0, none⟩ = some (.pointer (some ⟨g, 0, none⟩)) := box_cell hM.box 0 _ rfl
    have c1 : w.cell? ⟨h, 1, none⟩ = some (.int .i64 0) := box_cell hM.box 1 _ rfl
    have hh := box_lt hM.box
    obtain ⟨v, ys, mb, hw1⟩ := hM.wr
    have KW := Lib.hid (wbytes1x B g tx pl v ys mb a m c zs w hw1 hB2 hM.len hr hl hc hm)
    have HO : Hid (WOk B w h g tx pl) := hM
    have HL : Hid (zs.length = m) := hl
    clear hM hw1 hr hl
    obtain ⟨er, her⟩ : ∃ er : Int, (if 65535 < tx.length + m then (3 : Int) else 0) = er := ⟨_, rfl⟩
    rw [her] at KW
    have HER : Hid ((if 65535 < tx.length + m then (3 : Int) else 0) = er) := her
    clear her
    go_enter Tryz.func79, Tryz.ntmps79
    go_wp2_with fail
    refine KW.out.mono ?_
    rintro e w1 ⟨rfl, H1, HX1⟩
    have hbx : WBx w1 h g 0 := (H1.out.2.1.oth h _ 127 (0, 0) HO.out.box (by decide) (by decide)).trans HO.out.box
    have d1 : w1.cell? ⟨h, 1, none⟩ = some (.int .i64 0) := box_cell hbx 1 _ rfl
    have hh1 := box_lt hbx
    have hfz := box_frozen hbx 1
    have HS := Lib.hid (store_err hbx H1.out.1 hB er)
    have HB1 : Hid (B ≤ w1.heap.size) := (Nat.le_trans hB2 H1.out.2.1.below.size : B ≤ w1.heap.size)
    clear hbx KW
    go_wp2
    go_end0
    refine ⟨rfl, ⟨hB, ?_, ?_⟩, (Fm.fr H1.out.2.1 HX1.out).trans HS.out.2.2⟩
    · have := HB1.out; simpa using this
    · have hE := HER.out
      simp only [prun, Option.bind_some, pby, HL.out]
      by_cases hbig : 65535 < tx.length + m
      · rw [if_pos hbig] at hE ⊢
        subst hE
        exact ⟨HS.out.1, _, _, HS.out.2.1, by rw [if_pos hbig]; exact HO.out.len⟩
      · rw [if_neg hbig] at hE ⊢
        subst hE
        have h2 := HS.out.2.1
        rw [if_neg hbig] at h2
        exact ⟨HS.out.1, h2, by simp only [List.length_append, HL.out]; omega, HO.out.pls, by have := HO.out.num; simp only [List.length_append]; omega⟩
theorem keep16 : ∀ (t : List ByteArray) (pl : PLs) (start m : Nat), (∀ k p, (k, p) ∈ pl → p < 16384) → ∀ k p, (k, p) ∈ qkeep pl start m t → p < 16384
  | [], pl, start, 0, h => h
  | [], pl, start, m + 1, h => h
  | s :: t, pl, start, 0, h => h
  | s :: t, pl, start, m + 1, h => by
    unfold qkeep
    split
    · exact h
    · next hs =>
      refine keep16 t _ _ m ?_
      split
      · exact h
      · intro k p hk
        rcases List.mem_cons.1 hk with e | hk
        · cases e; omega
        · exact h k p hk
set_option maxRecDepth 100000 in
set_option maxHeartbeats 1000000 in
theorem mw_name (B h g : Nat) (s : WSt) (a : Option Addr) (n c : Nat) (ss : List ByteArray) (back : Bool) (w : World) (hM : MW B w h g s) (hA : Arg w a n ss) (hn : n ≤ 8796093021952) (hk : nck ss = 0) :
    Calls Tryz.prog 112 #[.pointer (some ⟨h, 0, none⟩), .slice a n c, .bool back] w fun e w' => e = .returned (.tuple #[]) ∧ Hid (MW B w' h g (prun (pnm ss back) s) ∧ Fm B g w w') := by
  have HM : Hid (MW B w h g s) := hM
  obtain ⟨hB, hB2, hM⟩ := hM
  cases s with
  | none =>
    have c1 : w.cell? ⟨h, 1, none⟩ = some (.int .i64 3) := box_cell hM.box 1 _ rfl
    have hh := box_lt hM.box
    clear hM hA
    go_enter Tryz.func112, Tryz.ntmps112
    go_wp2
    go_end0
    exact ⟨rfl, HM.out, Fm.refl _ _ _⟩
  | some s =>
    obtain ⟨tx, pl⟩ := s
    have c0 : w.cell? ⟨h, 0, none⟩ = some (.pointer (some ⟨g, 0, none⟩)) := box_cell hM.box 0 _ rfl
    have c1 : w.cell? ⟨h, 1, none⟩ = some (.int .i64 0) := box_cell hM.box 1 _ rfl
    have hh := box_lt hM.box
    have KW := Lib.hid (wname_anyx B g tx pl a n c ss back w hM.wr hA hn hB2 hM.len hM.pls (by have := hM.num; have := hM.len; simp only at *; omega))
    have HO : Hid (WOk B w h g tx pl) := hM
    have HK : Hid (nck ss = 0) := hk
    clear hM hA hk
    obtain ⟨r, hr⟩ : ∃ r, wnm tx pl ss back = r := ⟨_, rfl⟩
    have HR : Hid (wnm tx pl ss back = r) := hr
    rw [hr] at KW
    clear hr
    obtain ⟨er, tx2, pl2⟩ := r
    go_enter Tryz.func112, Tryz.ntmps112
    go_wp2_with fail
    refine KW.out.mono ?_
    rintro e w1 ⟨rfl, H1⟩
    have hbx : WBx w1 h g 0 := (H1.out.2.1.oth h _ 127 (0, 0) HO.out.box (by decide) (by decide)).trans HO.out.box
    have d1 : w1.cell? ⟨h, 1, none⟩ = some (.int .i64 0) := box_cell hbx 1 _ rfl
    have hh1 := box_lt hbx
    have hfz := box_frozen hbx 1
    have HS := Lib.hid (store_err hbx H1.out.1 hB er)
    have HB1 : Hid (B ≤ w1.heap.size) := (Nat.le_trans hB2 H1.out.2.1.below.size : B ≤ w1.heap.size)
    clear hbx KW
    go_wp2
    go_end0
    refine ⟨rfl, ⟨hB, ?_, ?_⟩, (Fm.fr H1.out.2.1 H1.out.2.2).trans HS.out.2.2⟩
    · have := HB1.out; simpa using this
    · have hE := HR.out
      unfold wnm at hE
      rw [if_pos HK.out] at hE
      simp only [prun, Option.bind_some, pnm]
      have hg := grw_nm ss back pl tx.length
      simp only [pnm] at hg
      by_cases hbig : 65535 < tx.length + (qshort (if back then pl else []) ss).length
      · rw [if_pos hbig] at hE ⊢
        cases hE
        exact ⟨HS.out.1, _, _, HS.out.2.1, HO.out.len⟩
      · rw [if_neg hbig] at hE ⊢
        cases hE
        exact ⟨HS.out.1, HS.out.2.1, by simp only [List.length_append]; omega, keep16 ss pl _ _ HO.out.pls, by have := HO.out.num; simp only [List.length_append] at *; omega⟩
theorem rd_two (w : World) (n : Nat) (h : n ≤ 65535) : Rd (w.alloc (.cells #[.int .u8 ((n : Int) / 256), .int .u8 ((n : Int) % 256)] 5)) (some ⟨w.heap.size, 0, none⟩) (numB n 2) := by
  have := (new_b w (numB n 2) 2 (numB_len n 2 (by omega)) (by omega) (by intro z hz; simp [numB] at hz; omega)).rd
  simpa [numB] using this
theorem rd_four (w : World) (n : Nat) (h : n ≤ 4294967295) : Rd (w.alloc (.cells #[.int .u8 ((n : Int) / 16777216), .int .u8 ((n : Int) / 65536 % 256), .int .u8 ((n : Int) / 256 % 256), .int .u8 ((n : Int) % 256)] 5)) (some ⟨w.heap.size, 0, none⟩) (numB n 4) := by
  have := (new_b w (numB n 4) 4 (numB_len n 4 (by omega)) (by omega) (by intro z hz; simp [numB] at hz; omega)).rd
  simpa [numB] using this
set_option maxRecDepth 100000 in
set_option maxHeartbeats 1000000 in
theorem mw_u16 (B h g : Nat) (s : WSt) (n : Nat) (w : World) (hM : MW B w h g s) (hn : n ≤ 65535) :
    Calls Tryz.prog 113 #[.pointer (some ⟨h, 0, none⟩), .int .i64 n] w fun e w' => e = .returned (.tuple #[]) ∧ Hid (MW B w' h g (prun (pby (numB n 2)) s) ∧ Fm B g w w') := by
  have KP := Lib.hid (put16_yes n w (by omega) (by omega))
  have hb : Below w.heap.size w (w.alloc (.cells #[.int .u8 ((n : Int) / 256), .int .u8 ((n : Int) % 256)] 5)) := newq_below _ _
  have KB := Lib.hid (mw_bytes B h g s (some ⟨w.heap.size, 0, none⟩) 2 2 (numB n 2) _ (hM.below hb) (rd_two w n hn) (numB_len n 2 (by omega)) (by simp) (by omega))
  have HF : Hid (Fm B g w (w.alloc (.cells #[.int .u8 ((n : Int) / 256), .int .u8 ((n : Int) % 256)] 5))) := Fm.of hb hM.2.1 hM.g
  generalize w.alloc (.cells #[.int .u8 ((n : Int) / 256), .int .u8 ((n : Int) % 256)] 5) = w1 at *
  clear hM hb
  go_enter Tryz.func113, Tryz.ntmps113
  go_wp2_with fail
  refine KP.out.mono ?_
  rintro e w2 ⟨rfl, rfl⟩
  go_wp2_with fail
  refine KB.out.mono ?_
  rintro e w3 ⟨rfl, H3⟩
  go_wp2
  go_end0
  exact ⟨rfl, H3.out.1, HF.out.trans H3.out.2⟩
end Go.Proofs.YteplffhfeoephaaGreat
namespace Go.Proofs.YteplffhfeoephaaGreat
open Go.ChangeShapes Go.WideShapes Go.ChangeAt Go.RowKit Go.Maps
set_option linter.unusedVariables false
set_option linter.unusedSimpArgs false
/-- Two bytes are written over. -/
def setAt (at_ n : Nat) (s : WSt) : WSt := s.map fun s => (s.1.take at_ ++ numB n 2 ++ s.1.drop (at_ + 2), s.2)
set_option maxRecDepth 100000 in
set_option maxHeartbeats 1000000 in
theorem mw_set (B h g : Nat) (s : WSt) (at_ n : Nat) (w : World) (hM : MW B w h g s) (hn : n ≤ 65535) (ha : ∀ x, s = some x → at_ + 2 ≤ x.1.length) :
    Calls Tryz.prog 117 #[.pointer (some ⟨h, 0, none⟩), .int .i64 at_, .int .i64 n] w fun e w' => e = .returned (.tuple #[]) ∧ Hid (MW B w' h g (setAt at_ n s) ∧ Fm B g w w') := by
  have HM : Hid (MW B w h g s) := hM
  obtain ⟨hB, hB2, hM⟩ := hM
  cases s with
  | none =>
    have c1 : w.cell? ⟨h, 1, none⟩ = some (.int .i64 3) := box_cell hM.box 1 _ rfl
    have hh := box_lt hM.box
    clear hM
    go_enter Tryz.func117, Tryz.ntmps117
    go_wp2
    go_end0
    exact ⟨rfl, HM.out, Fm.refl _ _ _⟩
  | some s =>
    obtain ⟨tx, pl⟩ := s
    have c0 : w.cell? ⟨h, 0, none⟩ = some (.pointer (some ⟨g, 0, none⟩)) := box_cell hM.box 0 _ rfl
    have c1 : w.cell? ⟨h, 1, none⟩ = some (.int .i64 0) := box_cell hM.box 1 _ rfl
    have hh := box_lt hM.box
    have hat := ha _ rfl
    simp only at hat
    have KW := Lib.hid (wset_yes B g tx pl tx.length at_ n w hM.wr rfl hM.len hn hat hB2)
    have HO : Hid (WOk B w h g tx pl) := hM
    have HA : Hid (at_ + 2 ≤ tx.length) := hat
    clear hM ha hat
    go_enter Tryz.func117, Tryz.ntmps117
    go_wp2_with fail
    refine KW.out.mono ?_
    rintro e w1 ⟨rfl, H1⟩
    have hbx : WBx w1 h g 0 := (H1.out.2.1.oth h _ 127 (0, 0) HO.out.box (by decide) (by decide)).trans HO.out.box
    have d1 : w1.cell? ⟨h, 1, none⟩ = some (.int .i64 0) := box_cell hbx 1 _ rfl
    have hh1 := box_lt hbx
    have hfz := box_frozen hbx 1
    have HS := Lib.hid (store_err hbx H1.out.1 hB 0)
    have HB1 : Hid (B ≤ w1.heap.size) := (Nat.le_trans hB2 H1.out.2.1.below.size : B ≤ w1.heap.size)
    clear hbx KW
    go_wp2
    go_end0
    refine ⟨rfl, ⟨hB, ?_, ?_⟩, (Fm.fr H1.out.2.1 H1.out.2.2).trans HS.out.2.2⟩
    · have := HB1.out; simpa using this
    · have hnl : (numB n 2).length = 2 := numB_len n 2 (by omega)
      have hA := HA.out
      have hlen : (tx.take at_ ++ numB n 2 ++ tx.drop (at_ + 2)).length = tx.length := by simp only [List.length_append, List.length_take, List.length_drop, hnl]; omega
      exact ⟨HS.out.1, HS.out.2.1, by have := HO.out.len; simp only at *; omega, HO.out.pls, by have := HO.out.num; simp only at *; omega⟩
/-- How many bytes there are. -/
def WLen (s : WSt) (k : Nat) : Prop := k ≤ 65535 ∧ ∀ x, s = some x → k = x.1.length
theorem mw_len (B h g : Nat) (s : WSt) (w : World) (hM : MW B w h g s) : Calls Tryz.prog 115 #[.pointer (some ⟨g, 0, none⟩)] w fun e w' => ∃ k : Nat, e = .returned (.int .i64 k) ∧ w' = w ∧ Hid (WLen s k) := by
  obtain ⟨hB, hB2, hM⟩ := hM
  cases s with
  | none =>
    obtain ⟨tx, pl, hW, hl⟩ := hM.wr
    refine (len_any B g tx pl w hW).mono ?_
    rintro e w' ⟨rfl, rfl⟩
    exact ⟨_, rfl, rfl, hl, fun x hx => by cases hx⟩
  | some s =>
    refine (len_any B g s.1 s.2 w hM.wr).mono ?_
    rintro e w' ⟨rfl, rfl⟩
    exact ⟨_, rfl, rfl, hM.len, fun x hx => by cases hx; rfl⟩
theorem MW.ptr {B : Nat} {w : World} {h g : Nat} {s : WSt} (hm : MW B w h g s) : w.cell? ⟨h, 0, none⟩ = some (.pointer (some ⟨g, 0, none⟩)) ∧ h < w.heap.size := by
  obtain ⟨h1, h2, h3⟩ := hm
  cases s with
  | none => exact ⟨box_cell h3.box 0 _ rfl, box_lt h3.box⟩
  | some s => exact ⟨box_cell h3.box 0 _ rfl, box_lt h3.box⟩
theorem Fm.cell {B g : Nat} {w w' : World} (hf : Fm B g w w') {b : Nat} {cs : Array Value} {t : TypeId} (hb : w.heap[b]? = some (.cells cs t)) (h5 : t ≠ 5) (h6 : t ≠ 163) (h7 : t ≠ 127) : w'.heap[b]? = some (.cells cs t) := (hf.oth b cs t _ hb h5 h6 h7).trans hb
theorem TRd.arg {w : World} {s : Sl} {ss : List ByteArray} (h : TRd w s ss) : Arg w s.a s.n ss := ⟨h.rd, h.len, by have := h.cap; omega, h.z63⟩
theorem nck_n {ss : List ByteArray} (h : nck ss = 0) : ss.length ≤ 255 := by
  have := (nck_small h).1
  have := nsz_len ss
  omega
set_option maxRecDepth 100000 in
set_option maxHeartbeats 1000000 in
theorem mw_question (B h g : Nat) (s : WSt) (x : QA) (q : Qn) (w : World) (hM : MW B w h g s) (hq : QOk w x q) (hk : nck q.nm = 0) :
    Calls Tryz.prog 80 #[.pointer (some ⟨h, 0, none⟩), .agg #[.slice x.s.a x.s.n x.s.c, .int .u16 x.ty, .int .u16 x.cl]] w fun e w' => e = .returned (.tuple #[]) ∧ Hid (MW B w' h g (prun (pqn q) s) ∧ Fm B g w w') := by
  have hb : Below w.heap.size w (w.alloc (.cells #[.slice x.s.a x.s.n x.s.c, .int .u16 x.ty, .int .u16 x.cl] 64)) := newq_below _ _
  have hbx0 : (w.alloc (.cells #[.slice x.s.a x.s.n x.s.c, .int .u16 x.ty, .int .u16 x.cl] 64)).heap[w.heap.size]? = some (.cells #[.slice x.s.a x.s.n x.s.c, .int .u16 x.ty, .int .u16 x.cl] 64) := heap_alloc_new _ _
  have hF0 : Hid (Fm B g w (w.alloc (.cells #[.slice x.s.a x.s.n x.s.c, .int .u16 x.ty, .int .u16 x.cl] 64))) := Fm.of hb hM.2.1 hM.g
  have hnn : x.s.n ≤ 8796093021952 := by have := hq.rd.len; have := nck_n hk; omega
  have K1 := Lib.hid (mw_name B h g s x.s.a x.s.n x.s.c q.nm true _ (hM.below hb) (hq.rd.below hb).arg hnn hk)
  have HT : Hid (x.ty = q.ty ∧ x.cl = q.cl ∧ q.ty ≤ 65535 ∧ q.cl ≤ 65535) := ⟨hq.ty, hq.cl, by have := hq.bt; omega, by have := hq.bc; omega⟩
  have t1 : x.ty ≤ 65535 := by have := HT.out; omega
  have t2 : x.cl ≤ 65535 := by have := HT.out; omega
  clear hM hq hk hb
  go_enter Tryz.func80, Tryz.ntmps80
  go_wp2_with fail
  generalize w.alloc (.cells #[.slice x.s.a x.s.n x.s.c, .int .u16 x.ty, .int .u16 x.cl] 64) = w0 at *
  obtain ⟨b, hbb⟩ : ∃ b, b = w.heap.size := ⟨_, rfl⟩
  rw [← hbb] at hbx0 ⊢
  clear hbb
  have HB0 : Hid (w0.heap[b]? = some (.cells #[.slice x.s.a x.s.n x.s.c, .int .u16 x.ty, .int .u16 x.cl] 64)) := hbx0
  have k0 := box_cell hbx0 0 _ rfl
  have hl0 := box_lt hbx0
  go_wp2_with fail
  refine K1.out.mono ?_
  rintro e w1 ⟨rfl, H1⟩
  have HB1 : Hid (w1.heap[b]? = some (.cells #[.slice x.s.a x.s.n x.s.c, .int .u16 x.ty, .int .u16 x.cl] 64)) := H1.out.2.cell HB0.out (by decide) (by decide) (by decide)
  have k1 := box_cell HB1.out 1 _ rfl
  have hl1 := box_lt HB1.out
  have K2 := Lib.hid (mw_u16 B h g _ x.ty w1 H1.out.1 t1)
  clear K1 k0 hl0 hbx0
  go_wp2_with fail
  refine K2.out.mono ?_
  rintro e w2 ⟨rfl, H2⟩
  have HB2 : Hid (w2.heap[b]? = some (.cells #[.slice x.s.a x.s.n x.s.c, .int .u16 x.ty, .int .u16 x.cl] 64)) := H2.out.2.cell HB1.out (by decide) (by decide) (by decide)
  have k2 := box_cell HB2.out 2 _ rfl
  have hl2 := box_lt HB2.out
  have K3 := Lib.hid (mw_u16 B h g _ x.cl w2 H2.out.1 t2)
  clear K2 k1 hl1
  go_wp2_with fail
  refine K3.out.mono ?_
  rintro e w3 ⟨rfl, H3⟩
  go_wp2
  go_end0
  refine ⟨rfl, ?_, ((hF0.out.trans H1.out.2).trans H2.out.2).trans H3.out.2⟩
  have := H3.out.1
  rw [pqn, prun_seq, prun_seq, ← HT.out.1, ← HT.out.2.1]
  exact this
end Go.Proofs.YteplffhfeoephaaGreat
namespace Go.Proofs.YteplffhfeoephaaGreat
open Go.ChangeShapes Go.WideShapes Go.ChangeAt Go.RowKit Go.Maps
set_option linter.unusedVariables false
set_option linter.unusedSimpArgs false
theorem RdN.fm {B g n : Nat} {w w' : World} {a : Option Addr} {L : List Int} (h : RdN n w a L) (hf : Fm B g w w') (ht : ∀ j, tbk w g = some j → j < n) : RdN n w' a L := by
  have key : ∀ b o sp, a = some ⟨b, o, sp⟩ → w'.heap[b]? = w.heap[b]? := by
    intro b o sp e
    obtain ⟨h1, cs, h2⟩ := h.2 b o sp e
    exact hf.fx.row b cs _ h2 (fun e2 => by have := ht b e2; omega)
  refine ⟨h.1.of_blocks hf.fx.size (fun b o e => key b o none e), fun b o sp e => ⟨(h.2 b o sp e).1, ?_⟩⟩
  rw [key b o sp e]
  exact (h.2 b o sp e).2
/-- Names so far. -/
def nsumk (ns : List (List ByteArray)) (k : Nat) : Nat := ((ns.take k).map nsz).sum
theorem nsumk_step (ns : List (List ByteArray)) (k : Nat) (h : k < ns.length) : nsumk ns (k + 1) = nsumk ns k + nsz ns[k] := by
  unfold nsumk
  rw [List.take_succ_eq_append_getElem h, List.map_append, List.sum_append]
  simp only [List.map_cons, List.map_nil, List.sum_cons, List.sum_nil, Nat.add_zero]
theorem nsumk_all (ns : List (List ByteArray)) : nsumk ns ns.length = (ns.map nsz).sum := by unfold nsumk; rw [List.take_length]
theorem nsumk_le (ns : List (List ByteArray)) (k : Nat) : nsumk ns k ≤ (ns.map nsz).sum := by
  unfold nsumk
  have e : ((ns.take k).map nsz).sum + ((ns.drop k).map nsz).sum = (ns.map nsz).sum := by rw [← List.sum_append, ← List.map_append, List.take_append_drop]
  omega
theorem pls_snoc (l : List Pc) (f : Pc) (s : WSt) : prun (pls (l ++ [f])) s = prun f (prun (pls l) s) := by
  rw [pls_app, prun_seq]
  congr 1
  funext pl n
  simp [pls, psq, pby]
set_option maxRecDepth 100000 in
set_option maxHeartbeats 4000000 in
theorem mw_data0 (B h g : Nat) (s : WSt) (t : Nat) (a1 : Option Addr) (n1 k1' : Nat) (p2 p3 p4 : Sl) (d : Dat) (W0 w : World) (hM : MW B w h g s) (hW0 : W0.heap.size = B) (hD : DRd W0 ⟨⟨a1, n1, k1'⟩, p2, p3, p4⟩ d) (hb : Below B W0 w) (hck : checkF t d = 0) (hBd : Bd d) :
    Calls Tryz.prog 116 #[.pointer (some ⟨h, 0, none⟩), .int .u16 t, .agg #[.slice a1 n1 k1', .slice p2.a p2.n p2.c, .slice p3.a p3.n p3.c, .slice p4.a p4.n p4.c]] w fun e w' => e = .returned (.tuple #[]) ∧ Hid (MW B w' h g (prun (pdat t d) s) ∧ Fm B g w w') := by
  have hb0 : Below w.heap.size w (w.alloc (.cells #[.slice a1 n1 k1', .slice p2.a p2.n p2.c, .slice p3.a p3.n p3.c, .slice p4.a p4.n p4.c] 59)) := newq_below _ _
  have hM0 := hM.below hb0
  have hF0 : Hid (Fm B g w (w.alloc (.cells #[.slice a1 n1 k1', .slice p2.a p2.n p2.c, .slice p3.a p3.n p3.c, .slice p4.a p4.n p4.c] 59))) := Fm.of hb0 hM.2.1 hM.g
  have hbx : (w.alloc (.cells #[.slice a1 n1 k1', .slice p2.a p2.n p2.c, .slice p3.a p3.n p3.c, .slice p4.a p4.n p4.c] 59)).heap[w.heap.size]? = some (.cells #[.slice a1 n1 k1', .slice p2.a p2.n p2.c, .slice p3.a p3.n p3.c, .slice p4.a p4.n p4.c] 59) := heap_alloc_new _ _
  have hB0 : Hid (Below B W0 (w.alloc (.cells #[.slice a1 n1 k1', .slice p2.a p2.n p2.c, .slice p3.a p3.n p3.c, .slice p4.a p4.n p4.c] 59))) := hb.trans (hb0.mono hM.2.1)
  obtain ⟨b, hbb⟩ : ∃ b, b = w.heap.size := ⟨_, rfl⟩
  cases s with
  | none =>
    have c1 : (w.alloc (.cells #[.slice a1 n1 k1', .slice p2.a p2.n p2.c, .slice p3.a p3.n p3.c, .slice p4.a p4.n p4.c] 59)).cell? ⟨h, 1, none⟩ = some (.int .i64 3) := box_cell hM0.2.2.box 1 _ rfl
    have hh := box_lt hM0.2.2.box
    have HM := Lib.hid hM0
    clear hM hM0 hD hb hb0 hbx hbb
    go_enter Tryz.func116, Tryz.ntmps116
    go_wp2_with fail
    generalize w.alloc (.cells #[.slice a1 n1 k1', .slice p2.a p2.n p2.c, .slice p3.a p3.n p3.c, .slice p4.a p4.n p4.c] 59) = w0 at *
    go_wp2_with fail
    refine bodyPost_ret (results_none rfl _ _ _) rfl ?_
    exact ⟨rfl, HM.out, hF0.out⟩
  | some s =>
    have c1 : (w.alloc (.cells #[.slice a1 n1 k1', .slice p2.a p2.n p2.c, .slice p3.a p3.n p3.c, .slice p4.a p4.n p4.c] 59)).cell? ⟨h, 1, none⟩ = some (.int .i64 0) := box_cell hM0.2.2.box 1 _ rfl
    have hh := box_lt hM0.2.2.box
    have HM := Lib.hid hM0
    have HD : Hid (∀ W, Below B W0 W → DRd W ⟨⟨a1, n1, k1'⟩, p2, p3, p4⟩ d) := fun W hW => hD.below (by rw [hW0]; exact hW)
    have HCK : Hid (checkF t d = 0 ∧ ∀ n ∈ d.ns, nck n = 0) := ⟨hck, (check_parts hck).2.2.1⟩
    obtain ⟨hsp, hle, _⟩ := wr_split hck
    have HSP : Hid (prun (pdat t d) (some s) = prun (pby ((writeF t d).drop (ahd t + dns d))) (prun (pls (d.ns.map fun n => pnm n (sqt t))) (prun (pby ((writeF t d).take (ahd t))) (some s)))) := (show _ = _ by rw [pdat, prun_seq, prun_seq])
    have KB := Lib.hid (bytes5_x t ⟨⟨a1, n1, k1'⟩, p2, p3, p4⟩ d _ (HD.out _ hB0.out) hBd)
    simp only at KB
    rw [hck] at KB
    have hlen := wlen hck
    generalize writeF t d = L at *
    have KN := fun W => Lib.hid (namesin_any t W)
    have KQ := fun W => Lib.hid (squeezed_any t W)
    generalize hah : ahd t = A at *
    generalize cnt t = Cn at *
    have HDN : Hid (dns d = (d.ns.map nsz).sum) := rfl
    generalize hdn : dns d = Dn at *
    generalize hst : some s = s0 at *
    rw [← hbb] at hbx
    have HDL : Hid (d.ns.length = n1) := hD.h1.len
    have hn1 : n1 ≤ 1000 := by have := hBd.n; have := HDL.out; omega
    clear hM hM0 hD hb hb0 hck hst hah hsp hdn
    go_enter Tryz.func116, Tryz.ntmps116
    go_wp2_with fail
    rw [← hbb]
    clear hbb
    generalize w.alloc (.cells #[.slice a1 n1 k1', .slice p2.a p2.n p2.c, .slice p3.a p3.n p3.c, .slice p4.a p4.n p4.c] 59) = w0 at *
    have HBX : Hid (w0.heap[b]? = some (.cells #[.slice a1 n1 k1', .slice p2.a p2.n p2.c, .slice p3.a p3.n p3.c, .slice p4.a p4.n p4.c] 59)) := hbx
    have k0 := box_cell hbx 0 _ rfl
    have k1 := box_cell hbx 1 _ rfl
    have k2 := box_cell hbx 2 _ rfl
    have k3 := box_cell hbx 3 _ rfl
    have hl0 := box_lt hbx
    clear hbx
    go_wp2_with fail
    refine KB.out.mono ?_
    rintro e w1 ⟨p, rfl, H1⟩
    obtain ⟨pa, pn, pc⟩ := p
    simp only at H1
    have HP1 : Hid (RdN w0.heap.size w1 pa L ∧ L.length = pn) := ⟨(H1.out.2.2.2.1 trivial).2, (H1.out.2.2.2.1 trivial).1.symm⟩
    have pq1 := H1.out.1
    have pq2 := H1.out.2.1
    have pq3 := H1.out.2.2.1
    have HB1 := Lib.hid H1.out.2.2.2.2.2
    have HM1 := Lib.hid (HM.out.below HB1.out)
    have hpn : A + Dn ≤ pn := by have := HP1.out.2; omega
    have hpn2 : pn ≤ 65535 := by have := HP1.out.2; omega
    have KB1 := Lib.hid (mw_bytes B h g s0 pa A pc (L.take A) w1 HM1.out (by have := HP1.out.1.1.cut 0 A (by have := HP1.out.2; omega) (a' := pa) (fun _ b o e => by simpa using e); simpa using this) (by rw [List.length_take]; have := HP1.out.2; omega) pq3 (by omega))
    clear KB H1
    have hAc : (A : Int) ≤ (pc : Int) := by omega
    go_wp2_with fail
    refine (KN w1).out.mono ?_
    rintro e w1' ⟨rfl, hw1'⟩
    subst w1'
    go_wp2_with fail
    refine KB1.out.mono ?_
    rintro e w2 ⟨rfl, H2⟩
    have HBX2 : Hid (w2.heap[b]? = some (.cells #[.slice a1 n1 k1', .slice p2.a p2.n p2.c, .slice p3.a p3.n p3.c, .slice p4.a p4.n p4.c] 59)) := H2.out.2.cell ((HB1.out.block b hl0).trans HBX.out) (by decide) (by decide) (by decide)
    have j0 := box_cell HBX2.out 0 _ rfl
    have hl2 := box_lt HBX2.out
    clear KB1 k0 k1 k2 k3
    have HBW : Hid (Below B W0 w2) := (hB0.out.trans (HB1.out.mono HM.out.2.1)).trans H2.out.2.below
    go_wp2_with fail
    go_loopw [8, 36] (fun y z wr => ∃ k : Nat, k ≤ n1 ∧ y = .int .i64 ((A + nsumk d.ns k : Nat) : Int) ∧ z = .int .i64 k ∧ Hid (MW B wr h g (prun (pls ((d.ns.take k).map fun n => pnm n (sqt t))) (prun (pby (L.take A)) s0)) ∧ Fm B g w2 wr)) (fun _ z _ => n1 - (intOf z).toNat)
    case atStart =>
      refine ⟨0, Nat.zero_le _, by simp [nsumk], rfl, ?_, Fm.refl _ _ _⟩
      have hmw := H2.out.1
      have e : prun (pls ((d.ns.take 0).map fun n => pnm n (sqt t))) (prun (pby (L.take A)) s0) = prun (pby (L.take A)) s0 := by
        simp only [List.take_zero, List.map_nil, pls]
        generalize hS : prun (pby (L.take A)) s0 = S
        cases S with
        | none => rfl
        | some S =>
          have hlS : S.1.length ≤ 65535 := by
            rw [hS] at hmw
            exact hmw.2.2.len
          simp only [prun, Option.bind_some, pby, List.length_nil, Nat.add_zero, List.append_nil]
          rw [if_neg (by omega)]
      rw [e]
      exact hmw
    case round =>
      obtain ⟨k, hk, rfl, rfl, HK⟩ := hrel
      by_cases hlt : k < n1
      · have hlt' : (k : Int) < (n1 : Int) := by omega
        have hks : k < d.ns.length := by rw [HDL.out]; exact hlt
        have HWr : Hid (Below B W0 wr) := HBW.out.trans HK.out.2.below
        obtain ⟨nb, no, hna, hnb, y, hcell, hty⟩ := ((HD.out wr HWr.out).h1).at k hks
        simp only at hna
        have hnk := HCK.out.2 _ (List.getElem_mem hks)
        have HST : Hid (nsumk d.ns (k + 1) = nsumk d.ns k + nsz d.ns[k]) := nsumk_step d.ns k hks
        have hsm : nsumk d.ns (k + 1) ≤ Dn := by rw [HDN.out]; exact nsumk_le _ _
        have hz255 : nsz d.ns[k] ≤ 255 := (nck_small hnk).1
        have HTK : Hid ((d.ns.take (k + 1)).map (fun n => pnm n (sqt t)) = (d.ns.take k).map (fun n => pnm n (sqt t)) ++ [pnm d.ns[k] (sqt t)]) := (show _ = _ by rw [List.take_succ_eq_append_getElem hks, List.map_append]; rfl)
        have hyn : y.n ≤ 8796093021952 := by have := hty.len; have := nck_n hnk; omega
        have KNM := Lib.hid (mw_name B h g _ y.a y.n y.c d.ns[k] (sqt t) wr HK.out.1 hty.arg hyn hnk)
        have KSZ : Hid (∀ W, Below B W0 W → Calls Tryz.prog 87 #[.slice y.a y.n y.c] W fun e w' => e = .returned (.int .i64 (nsz d.ns[k])) ∧ w' = W) := by
          intro W hW
          obtain ⟨nb2, no2, hna2, _, y2, hcell2, hty2⟩ := ((HD.out W hW).h1).at k hks
          simp only at hna2
          rw [hna] at hna2
          injection hna2 with hna2
          injection hna2 with e1 e2 _
          subst e1 e2
          have hnbB : nb < B := by
            obtain ⟨nb3, no3, hna3, hnb3, _⟩ := ((HD.out W0 (Below.refl _ _)).h1).at k hks
            simp only at hna3
            rw [hna] at hna3
            injection hna3 with hna3
            injection hna3 with e1 e2 _
            subst e1
            omega
          have e3 : W.cell? ⟨nb, no + k, none⟩ = wr.cell? ⟨nb, no + k, none⟩ := by
            have q1 := hW.block nb hnbB
            have q2 := HWr.out.block nb hnbB
            simp only [World.cell?, q1, q2]
          rw [hcell2, hcell] at e3
          have e4 : y2.a = y.a ∧ y2.n = y.n := by injection e3 with e3; injection e3 with e5 e6 e7; exact ⟨e5, e6⟩
          have := psize_eq y.a y.n y.c d.ns[k] W (by rw [← e4.1]; exact hty2.rd) (by rw [← e4.2]; exact hty2.len) (by omega)
          exact this
        subst hna
        generalize d.ns[k] = nm at *
        generalize nsumk d.ns k = S at *
        rw [HST.out] at hsm
        clear hnk
        go_wp2_with fail
        refine (KQ wr).out.mono ?_
        rintro e w3 ⟨rfl, hw3⟩
        subst w3
        go_wp2_with fail
        refine KNM.out.mono ?_
        rintro e w4 ⟨rfl, H4⟩
        have HW4 : Hid (Below B W0 w4) := HWr.out.trans H4.out.2.below
        have K5 := Lib.hid (KSZ.out w4 HW4.out)
        clear KSZ KNM
        go_wp2_with fail
        refine K5.out.mono ?_
        rintro e w5 ⟨rfl, hw5⟩
        subst w5
        go_wp2
        refine ⟨⟨k + 1, by omega, by rw [HST.out]; go_num, by go_num, ?_, HK.out.2.trans H4.out.2⟩, by simp [intOf]; omega⟩
        rw [HTK.out, pls_snoc]
        exact H4.out.1
      · have hkk : k = n1 := by omega
        subst k
        have HAll : Hid (nsumk d.ns n1 = Dn ∧ d.ns.take n1 = d.ns) := ⟨by rw [HDN.out, ← HDL.out]; exact nsumk_all _, by rw [← HDL.out]; exact List.take_length⟩
        rw [HAll.out.1]
        have HK2 : Hid (MW B wr h g (prun (pls (d.ns.map fun n => pnm n (sqt t))) (prun (pby (L.take A)) s0)) ∧ Fm B g w2 wr) := by have := HK.out; rw [HAll.out.2] at this; exact this
        clear HK
        have HPr : Hid (RdN w0.heap.size wr pa L) := HP1.out.1.fm (H2.out.2.trans HK2.out.2) (fun j hj => by
          have e : tbk w1 g = tbk w0 g := tbk_same (HB1.out.block g HM.out.g)
          rw [e] at hj
          exact HM.out.tb j hj)
        have hlt2 : ((A + Dn : Nat) : Int) ≤ (pn : Int) := by omega
        have KB2 : Hid (∀ a' c', (0 < pn - (A + Dn) → ∀ b o, pa = some ⟨b, o, none⟩ → a' = some ⟨b, o + (A + Dn), none⟩) → (a' = none → c' = 0) → Calls Tryz.prog 79 #[.pointer (some ⟨h, 0, none⟩), .slice a' (pn - (A + Dn)) c'] wr fun e w' => e = .returned (.tuple #[]) ∧ Hid (MW B w' h g (prun (pby (L.drop (A + Dn))) (prun (pls (d.ns.map fun n => pnm n (sqt t))) (prun (pby (L.take A)) s0))) ∧ Fm B g wr w')) := by
          intro a' c' ha' hn'
          have hrd := HPr.out.1.cut (A + Dn) (pn - (A + Dn)) (by have := HP1.out.2; omega) (a' := a') ha'
          rw [List.take_of_length_le (by rw [List.length_drop]; have := HP1.out.2; omega)] at hrd
          exact mw_bytes B h g _ a' (pn - (A + Dn)) c' (L.drop (A + Dn)) wr HK2.out.1 hrd (by rw [List.length_drop]; have := HP1.out.2; omega) hn' (by omega)
        generalize A + Dn = AD at *
        go_wp2_with fail
        · refine (KB2.out pa 0 (fun h0 => absurd h0 (by omega)) (fun _ => rfl)).mono ?_
          rintro e w6 ⟨rfl, H6⟩
          go_wp2
          go_end0
          refine ⟨rfl, ?_, (((hF0.out.trans (Fm.of HB1.out HM.out.2.1 HM.out.g)).trans H2.out.2).trans HK2.out.2).trans H6.out.2⟩
          rw [HSP.out]
          exact H6.out.1
        · refine (KB2.out (pa.map fun x => x.add AD) (pc - AD) (fun _ b o e => by subst e; simp [Addr.add]) (fun e => by
            cases pa with
            | none => have := pq3 rfl; omega
            | some a => cases e)).mono ?_
          rintro e w6 ⟨rfl, H6⟩
          go_wp2
          go_end0
          refine ⟨rfl, ?_, (((hF0.out.trans (Fm.of HB1.out HM.out.2.1 HM.out.g)).trans H2.out.2).trans HK2.out.2).trans H6.out.2⟩
          rw [HSP.out]
          exact H6.out.1
theorem mw_data (B h g : Nat) (s : WSt) (t : Nat) (x : DA) (d : Dat) (W0 w : World) (hM : MW B w h g s) (hW0 : W0.heap.size = B) (hD : DRd W0 x d) (hb : Below B W0 w) (hck : checkF t d = 0) (hBd : Bd d) :
    Calls Tryz.prog 116 #[.pointer (some ⟨h, 0, none⟩), .int .u16 t, .agg #[.slice x.p1.a x.p1.n x.p1.c, .slice x.p2.a x.p2.n x.p2.c, .slice x.p3.a x.p3.n x.p3.c, .slice x.p4.a x.p4.n x.p4.c]] w fun e w' => e = .returned (.tuple #[]) ∧ Hid (MW B w' h g (prun (pdat t d) s) ∧ Fm B g w w') := by
  obtain ⟨⟨a1, n1, k1⟩, p2, p3, p4⟩ := x
  exact mw_data0 B h g s t a1 n1 k1 p2 p3 p4 d W0 w hM hW0 hD hb hck hBd
end Go.Proofs.YteplffhfeoephaaGreat
namespace Go.Proofs.YteplffhfeoephaaGreat
open Go.ChangeShapes Go.WideShapes Go.ChangeAt Go.RowKit Go.Maps
set_option linter.unusedVariables false
set_option linter.unusedSimpArgs false
set_option maxRecDepth 100000 in
theorem mw_set_none (B h g : Nat) (z1 z2 : Int) (w : World) (hM : MW B w h g none) :
    Calls Tryz.prog 117 #[.pointer (some ⟨h, 0, none⟩), .int .i64 z1, .int .i64 z2] w fun e w' => e = .returned (.tuple #[]) ∧ Hid (MW B w' h g none ∧ Fm B g w w') := by
  have HM : Hid (MW B w h g none) := hM
  have c1 : w.cell? ⟨h, 1, none⟩ = some (.int .i64 3) := box_cell hM.2.2.box 1 _ rfl
  have hh := box_lt hM.2.2.box
  clear hM
  go_enter Tryz.func117, Tryz.ntmps117
  go_wp2
  go_end0
  exact ⟨rfl, HM.out, Fm.refl _ _ _⟩
/-- Two bytes that keep the place, then data, then how many they are. -/
theorem sz_run (f : Pc) (tx : List Int) (pl : PLs) : (prun f (prun (pby (numB 0 2)) (some (tx, pl))) = none ∧ prun (psz f) (some (tx, pl)) = none) ∨
    ∃ y, prun f (prun (pby (numB 0 2)) (some (tx, pl))) = some y ∧ y.1.length = tx.length + 2 + (f pl (tx.length + 2)).1.length ∧ prun (psz f) (some (tx, pl)) = setAt tx.length (f pl (tx.length + 2)).1.length (some y) ∧ prun (pby (numB 0 2)) (some (tx, pl)) = some (tx ++ numB 0 2, pl) := by
  have h0 : (numB 0 2).length = 2 := numB_len _ _ (by omega)
  have h1 : (numB (f pl (tx.length + 2)).1.length 2).length = 2 := numB_len _ _ (by omega)
  by_cases hs : 65535 < tx.length + (2 + (f pl (tx.length + 2)).1.length)
  · left
    constructor
    · simp only [prun, Option.bind_some, pby, h0]
      by_cases h2 : 65535 < tx.length + 2
      · rw [if_pos h2]; rfl
      · rw [if_neg h2]
        simp only [Option.bind_some, List.length_append, h0]
        rw [if_pos (by omega)]
    · simp only [prun, Option.bind_some, psz, List.length_append, h1]
      rw [if_pos hs]
  · right
    have e2 : prun (pby (numB 0 2)) (some (tx, pl)) = some (tx ++ numB 0 2, pl) := by
      simp only [prun, Option.bind_some, pby, h0]
      rw [if_neg (by omega)]
    refine ⟨(tx ++ numB 0 2 ++ (f pl (tx.length + 2)).1, (f pl (tx.length + 2)).2), ?_, ?_, ?_, e2⟩
    · rw [e2]
      simp only [prun, Option.bind_some, List.length_append, h0]
      rw [if_neg (by omega)]
    · simp only [List.length_append, h0]
    · simp only [prun, Option.bind_some, psz, List.length_append, h1, setAt, Option.map_some]
      rw [if_neg hs]
      congr 1
      simp only [Prod.mk.injEq, and_true]
      rw [List.append_assoc tx, List.take_left, List.drop_append, List.drop_eq_nil_of_le (by omega), List.nil_append, show tx.length + 2 - tx.length = 2 by omega, List.drop_append, h0, List.drop_eq_nil_of_le (by omega)]
      simp
set_option maxRecDepth 100000 in
set_option maxHeartbeats 4000000 in
theorem mw_record (B h g : Nat) (s : WSt) (x : RA) (r : Rec) (W0 w : World) (hM : MW B w h g s) (hW0 : W0.heap.size = B) (hR : RRd W0 x r) (hb : Below B W0 w) (ho : nck r.ow = 0) (hck : checkF r.t r.d = 0) (hBd : Bd r.d) (hRb : Rb r) :
    Calls Tryz.prog 81 #[.pointer (some ⟨h, 0, none⟩), .agg #[.slice x.o.a x.o.n x.o.c, .int .u16 r.t, .int .u16 r.cl, .int .u32 r.tt, .slice x.d.p1.a x.d.p1.n x.d.p1.c, .slice x.d.p2.a x.d.p2.n x.d.p2.c, .slice x.d.p3.a x.d.p3.n x.d.p3.c, .slice x.d.p4.a x.d.p4.n x.d.p4.c]] w fun e w' => e = .returned (.tuple #[]) ∧ Hid (MW B w' h g (prun (prec r) s) ∧ Fm B g w w') := by
  have hb0 : Below w.heap.size w (w.alloc (.cells #[.slice x.o.a x.o.n x.o.c, .int .u16 r.t, .int .u16 r.cl, .int .u32 r.tt, .slice x.d.p1.a x.d.p1.n x.d.p1.c, .slice x.d.p2.a x.d.p2.n x.d.p2.c, .slice x.d.p3.a x.d.p3.n x.d.p3.c, .slice x.d.p4.a x.d.p4.n x.d.p4.c] 61)) := newq_below _ _
  have hM0 := hM.below hb0
  have HF0 : Hid (Fm B g w (w.alloc (.cells #[.slice x.o.a x.o.n x.o.c, .int .u16 r.t, .int .u16 r.cl, .int .u32 r.tt, .slice x.d.p1.a x.d.p1.n x.d.p1.c, .slice x.d.p2.a x.d.p2.n x.d.p2.c, .slice x.d.p3.a x.d.p3.n x.d.p3.c, .slice x.d.p4.a x.d.p4.n x.d.p4.c] 61))) := Fm.of hb0 hM.2.1 hM.g
  have hbx : (w.alloc (.cells #[.slice x.o.a x.o.n x.o.c, .int .u16 r.t, .int .u16 r.cl, .int .u32 r.tt, .slice x.d.p1.a x.d.p1.n x.d.p1.c, .slice x.d.p2.a x.d.p2.n x.d.p2.c, .slice x.d.p3.a x.d.p3.n x.d.p3.c, .slice x.d.p4.a x.d.p4.n x.d.p4.c] 61)).heap[w.heap.size]? = some (.cells #[.slice x.o.a x.o.n x.o.c, .int .u16 r.t, .int .u16 r.cl, .int .u32 r.tt, .slice x.d.p1.a x.d.p1.n x.d.p1.c, .slice x.d.p2.a x.d.p2.n x.d.p2.c, .slice x.d.p3.a x.d.p3.n x.d.p3.c, .slice x.d.p4.a x.d.p4.n x.d.p4.c] 61) := heap_alloc_new _ _
  have HB0 : Hid (Below B W0 (w.alloc (.cells #[.slice x.o.a x.o.n x.o.c, .int .u16 r.t, .int .u16 r.cl, .int .u32 r.tt, .slice x.d.p1.a x.d.p1.n x.d.p1.c, .slice x.d.p2.a x.d.p2.n x.d.p2.c, .slice x.d.p3.a x.d.p3.n x.d.p3.c, .slice x.d.p4.a x.d.p4.n x.d.p4.c] 61))) := hb.trans (hb0.mono hM.2.1)
  obtain ⟨b, hbb⟩ : ∃ b, b = w.heap.size := ⟨_, rfl⟩
  have HR : Hid (∀ W, Below B W0 W → RRd W x r) := fun W hW => hR.below (by rw [hW0]; exact hW)
  have hon : x.o.n ≤ 8796093021952 := by have := hR.1.len; have := nck_n ho; omega
  have K1 := Lib.hid (mw_name B h g s x.o.a x.o.n x.o.c r.ow true _ hM0 (HR.out _ HB0.out).1.arg hon ho)
  obtain ⟨t1, t2, t3⟩ := hRb
  have KD : Hid (∀ S W, MW B W h g S → Below B W0 W → Calls Tryz.prog 116 #[.pointer (some ⟨h, 0, none⟩), .int .u16 r.t, .agg #[.slice x.d.p1.a x.d.p1.n x.d.p1.c, .slice x.d.p2.a x.d.p2.n x.d.p2.c, .slice x.d.p3.a x.d.p3.n x.d.p3.c, .slice x.d.p4.a x.d.p4.n x.d.p4.c]] W fun e w' => e = .returned (.tuple #[]) ∧ Hid (MW B w' h g (prun (pdat r.t r.d) S) ∧ Fm B g W w')) := fun S W hS hW => mw_data B h g S r.t x.d r.d W0 W hS hW0 hR.2 hW hck hBd
  rw [← hbb] at hbx
  clear hM hM0 hR hb hb0 hck ho
  go_enter Tryz.func81, Tryz.ntmps81
  go_wp2_with fail
  rw [← hbb]
  clear hbb
  generalize w.alloc (.cells #[.slice x.o.a x.o.n x.o.c, .int .u16 r.t, .int .u16 r.cl, .int .u32 r.tt, .slice x.d.p1.a x.d.p1.n x.d.p1.c, .slice x.d.p2.a x.d.p2.n x.d.p2.c, .slice x.d.p3.a x.d.p3.n x.d.p3.c, .slice x.d.p4.a x.d.p4.n x.d.p4.c] 61) = w0 at *
  have HX0 : Hid (w0.heap[b]? = some (.cells #[.slice x.o.a x.o.n x.o.c, .int .u16 r.t, .int .u16 r.cl, .int .u32 r.tt, .slice x.d.p1.a x.d.p1.n x.d.p1.c, .slice x.d.p2.a x.d.p2.n x.d.p2.c, .slice x.d.p3.a x.d.p3.n x.d.p3.c, .slice x.d.p4.a x.d.p4.n x.d.p4.c] 61)) := hbx
  have k0 := box_cell hbx 0 _ rfl
  have hl0 := box_lt hbx
  clear hbx
  go_wp2_with fail
  refine K1.out.mono ?_
  rintro e w1 ⟨rfl, H1⟩
  generalize hS1 : prun (pnm r.ow true) s = S1 at *
  have HS1 := Lib.hid hS1
  have HX1 : Hid (w1.heap[b]? = some (.cells #[.slice x.o.a x.o.n x.o.c, .int .u16 r.t, .int .u16 r.cl, .int .u32 r.tt, .slice x.d.p1.a x.d.p1.n x.d.p1.c, .slice x.d.p2.a x.d.p2.n x.d.p2.c, .slice x.d.p3.a x.d.p3.n x.d.p3.c, .slice x.d.p4.a x.d.p4.n x.d.p4.c] 61)) := H1.out.2.cell HX0.out (by decide) (by decide) (by decide)
  have k1 := box_cell HX1.out 1 _ rfl
  have hl1 := box_lt HX1.out
  have K2 := Lib.hid (mw_u16 B h g S1 r.t w1 H1.out.1 t1)
  clear K1 k0 hl0 hS1
  go_wp2_with fail
  refine K2.out.mono ?_
  rintro e w2 ⟨rfl, H2⟩
  generalize hS2 : prun (pby (numB r.t 2)) S1 = S2 at *
  have HS2 := Lib.hid hS2
  have HX2 : Hid (w2.heap[b]? = some (.cells #[.slice x.o.a x.o.n x.o.c, .int .u16 r.t, .int .u16 r.cl, .int .u32 r.tt, .slice x.d.p1.a x.d.p1.n x.d.p1.c, .slice x.d.p2.a x.d.p2.n x.d.p2.c, .slice x.d.p3.a x.d.p3.n x.d.p3.c, .slice x.d.p4.a x.d.p4.n x.d.p4.c] 61)) := H2.out.2.cell HX1.out (by decide) (by decide) (by decide)
  have k2 := box_cell HX2.out 2 _ rfl
  have hl2 := box_lt HX2.out
  have K3 := Lib.hid (mw_u16 B h g S2 r.cl w2 H2.out.1 t2)
  clear K2 k1 hl1 hS2
  go_wp2_with fail
  refine K3.out.mono ?_
  rintro e w3 ⟨rfl, H3⟩
  generalize hS3 : prun (pby (numB r.cl 2)) S2 = S3 at *
  have HS3 := Lib.hid hS3
  have HX3 : Hid (w3.heap[b]? = some (.cells #[.slice x.o.a x.o.n x.o.c, .int .u16 r.t, .int .u16 r.cl, .int .u32 r.tt, .slice x.d.p1.a x.d.p1.n x.d.p1.c, .slice x.d.p2.a x.d.p2.n x.d.p2.c, .slice x.d.p3.a x.d.p3.n x.d.p3.c, .slice x.d.p4.a x.d.p4.n x.d.p4.c] 61)) := H3.out.2.cell HX2.out (by decide) (by decide) (by decide)
  have k3 := box_cell HX3.out 3 _ rfl
  have hl3 := box_lt HX3.out
  have K4 := Lib.hid (put32_yes (r.tt : Int) w3 (by omega) (by omega))
  clear K3 k2 hl2 hS3
  go_wp2_with fail
  refine K4.out.mono ?_
  rintro e w4 ⟨rfl, hw4⟩
  have HB4 : Hid (Below w3.heap.size w3 w4) := by rw [hw4]; exact newq_below _ _
  have HR4 : Hid (Rd w4 (some ⟨w3.heap.size, 0, none⟩) (numB r.tt 4)) := by rw [hw4]; exact rd_four w3 r.tt t3
  clear hw4 K4 k3
  have K5 := Lib.hid (mw_bytes B h g S3 (some ⟨w3.heap.size, 0, none⟩) 4 4 (numB r.tt 4) w4 (H3.out.1.below HB4.out) HR4.out (numB_len _ _ (by omega)) (by simp) (by omega))
  go_wp2_with fail
  refine K5.out.mono ?_
  rintro e w5 ⟨rfl, H5⟩
  generalize hS4 : prun (pby (numB r.tt 4)) S3 = S4 at *
  have HS4 := Lib.hid hS4
  have HF5 : Hid (Fm B g w w5) := ((((HF0.out.trans H1.out.2).trans H2.out.2).trans H3.out.2).trans (Fm.of HB4.out H3.out.1.2.1 H3.out.1.g)).trans H5.out.2
  have HX5 : Hid (w5.heap[b]? = some (.cells #[.slice x.o.a x.o.n x.o.c, .int .u16 r.t, .int .u16 r.cl, .int .u32 r.tt, .slice x.d.p1.a x.d.p1.n x.d.p1.c, .slice x.d.p2.a x.d.p2.n x.d.p2.c, .slice x.d.p3.a x.d.p3.n x.d.p3.c, .slice x.d.p4.a x.d.p4.n x.d.p4.c] 61)) := H5.out.2.cell ((HB4.out.block b hl3).trans HX3.out) (by decide) (by decide) (by decide)
  have m5 := H5.out.1.ptr
  obtain ⟨m5a, m5b⟩ := m5
  have K6 := Lib.hid (mw_len B h g S4 w5 H5.out.1)
  clear K5 hS4 hl3
  go_wp2_with fail
  refine K6.out.mono ?_
  rintro e w5' ⟨q1, rfl, hw5', HL1⟩
  subst w5'
  have K7 := Lib.hid (mw_u16 B h g S4 0 w5 H5.out.1 (by omega))
  have b1 := HL1.out.1
  clear K6
  go_wp2_with fail
  refine K7.out.mono ?_
  rintro e w7 ⟨rfl, H7⟩
  generalize hS5 : prun (pby (numB 0 2)) S4 = S5 at *
  have HS5 := Lib.hid hS5
  have HX7 : Hid (w7.heap[b]? = some (.cells #[.slice x.o.a x.o.n x.o.c, .int .u16 r.t, .int .u16 r.cl, .int .u32 r.tt, .slice x.d.p1.a x.d.p1.n x.d.p1.c, .slice x.d.p2.a x.d.p2.n x.d.p2.c, .slice x.d.p3.a x.d.p3.n x.d.p3.c, .slice x.d.p4.a x.d.p4.n x.d.p4.c] 61)) := H7.out.2.cell HX5.out (by decide) (by decide) (by decide)
  obtain ⟨m7a, m7b⟩ := H7.out.1.ptr
  have K8 := Lib.hid (mw_len B h g S5 w7 H7.out.1)
  clear K7 hS5 m5a m5b
  go_wp2_with fail
  refine K8.out.mono ?_
  rintro e w7' ⟨q2, rfl, hw7', HL2⟩
  subst w7'
  have b2 := HL2.out.1
  have HB7 : Hid (Below B W0 w7) := (HB0.out.trans ((Below.refl _ _ |>.trans H1.out.2.below).trans (H2.out.2.below.trans (H3.out.2.below.trans ((HB4.out.mono H3.out.1.2.1).trans (H5.out.2.below.trans H7.out.2.below))))))
  have K9 := Lib.hid (KD.out S5 w7 H7.out.1 HB7.out)
  have k71 := box_cell HX7.out 1 _ rfl
  have k74 := box_cell HX7.out 4 _ rfl
  have k75 := box_cell HX7.out 5 _ rfl
  have k76 := box_cell HX7.out 6 _ rfl
  have k77 := box_cell HX7.out 7 _ rfl
  have hl7 := box_lt HX7.out
  clear K8 KD
  go_wp2_with fail
  refine K9.out.mono ?_
  rintro e w9 ⟨rfl, H9⟩
  generalize hS6 : prun (pdat r.t r.d) S5 = S6 at *
  have HS6 := Lib.hid hS6
  obtain ⟨m9a, m9b⟩ := H9.out.1.ptr
  have K10 := Lib.hid (mw_len B h g S6 w9 H9.out.1)
  clear K9 hS6 m7a m7b k71 k74 k75 k76 k77 hl7
  go_wp2_with fail
  refine K10.out.mono ?_
  rintro e w9' ⟨q3, rfl, hw9', HL3⟩
  subst w9'
  have b3 := HL3.out.1
  have HEND : Hid (prun (prec r) s = prun (psz (pdat r.t r.d)) S4) := (show _ = _ by rw [prec, prun_seq, prun_seq, prun_seq, prun_seq, HS1.out, HS2.out, HS3.out, HS4.out])
  have HF9 : Hid (Fm B g w w9) := (HF5.out.trans H7.out.2).trans H9.out.2
  have KS : Hid (Calls Tryz.prog 117 #[.pointer (some ⟨h, 0, none⟩), .int .i64 q1, .int .i64 ((q3 : Int) - (q2 : Int))] w9 fun e w' => e = .returned (.tuple #[]) ∧ Hid (MW B w' h g (prun (psz (pdat r.t r.d)) S4) ∧ Fm B g w9 w')) := by
    cases S4 with
    | none =>
      have e5 : S5 = none := HS5.out.symm
      have e6 : S6 = none := by rw [← HS6.out, e5]; rfl
      have := H9.out.1
      rw [e6] at this
      exact mw_set_none B h g _ _ w9 this
    | some y =>
      obtain ⟨tx, pl⟩ := y
      have hy1 := HL1.out.2 _ rfl
      simp only at hy1
      rcases sz_run (pdat r.t r.d) tx pl with ⟨e1, e2⟩ | ⟨y, e1, e2, e3, e4⟩
      · have e6 : S6 = none := by rw [← HS6.out, ← HS5.out]; exact e1
        have := H9.out.1
        rw [e6] at this
        rw [e2]
        exact mw_set_none B h g _ _ w9 this
      · have e6 : S6 = some y := by rw [← HS6.out, ← HS5.out]; exact e1
        have e5 : S5 = some (tx ++ numB 0 2, pl) := by rw [← HS5.out]; exact e4
        have hy3 := HL3.out.2 y e6
        have hy2 := HL2.out.2 _ e5
        have hnl : (numB 0 2).length = 2 := numB_len _ _ (by omega)
        simp only [List.length_append, hnl] at hy2
        have hm := H9.out.1
        rw [e6] at hm
        have hd : (q3 : Int) - (q2 : Int) = (((pdat r.t r.d pl (tx.length + 2)).1.length : Nat) : Int) := by omega
        rw [e3, hd, hy1]
        exact mw_set B h g (some y) tx.length _ w9 hm (by omega) (fun x hx => by cases hx; omega)
  clear K10 m9a m9b
  go_wp2_with fail
  refine KS.out.mono ?_
  rintro e w10 ⟨rfl, H10⟩
  go_wp2
  go_end0
  refine ⟨rfl, ?_, HF9.out.trans H10.out.2⟩
  rw [HEND.out]
  exact H10.out.1
end Go.Proofs.YteplffhfeoephaaGreat
namespace Go.Proofs.YteplffhfeoephaaGreat
open Go.ChangeShapes Go.WideShapes Go.ChangeAt Go.RowKit Go.Maps
set_option linter.unusedVariables false
set_option linter.unusedSimpArgs false
theorem mbox_cells {H : Hd} {x : MA} {W : World} {b : Nat} (h : W.heap[b]? = some (.cells #[.int .u16 H.id, .bool H.rs, .int .i64 H.op, .bool H.aa, .bool H.tc, .bool H.rd, .bool H.ra, .bool H.ad, .bool H.cd, .int .i64 H.rc, .slice x.q.a x.q.n x.q.c, .slice x.l1.a x.l1.n x.l1.c, .slice x.l2.a x.l2.n x.l2.c, .slice x.l3.a x.l3.n x.l3.c] 26)) : (W.cell? ⟨b, 0, none⟩ = some (.int .u16 H.id) ∧ W.cell? ⟨b, 1, none⟩ = some (.bool H.rs) ∧ W.cell? ⟨b, 2, none⟩ = some (.int .i64 H.op) ∧ W.cell? ⟨b, 3, none⟩ = some (.bool H.aa) ∧ W.cell? ⟨b, 4, none⟩ = some (.bool H.tc) ∧ W.cell? ⟨b, 5, none⟩ = some (.bool H.rd) ∧ W.cell? ⟨b, 6, none⟩ = some (.bool H.ra) ∧ W.cell? ⟨b, 7, none⟩ = some (.bool H.ad) ∧ W.cell? ⟨b, 8, none⟩ = some (.bool H.cd) ∧ W.cell? ⟨b, 9, none⟩ = some (.int .i64 H.rc) ∧ W.cell? ⟨b, 10, none⟩ = some (.slice x.q.a x.q.n x.q.c) ∧ W.cell? ⟨b, 11, none⟩ = some (.slice x.l1.a x.l1.n x.l1.c) ∧ W.cell? ⟨b, 12, none⟩ = some (.slice x.l2.a x.l2.n x.l2.c) ∧ W.cell? ⟨b, 13, none⟩ = some (.slice x.l3.a x.l3.n x.l3.c)) :=
  ⟨box_cell h 0 _ rfl, box_cell h 1 _ rfl, box_cell h 2 _ rfl, box_cell h 3 _ rfl, box_cell h 4 _ rfl, box_cell h 5 _ rfl, box_cell h 6 _ rfl, box_cell h 7 _ rfl, box_cell h 8 _ rfl, box_cell h 9 _ rfl, box_cell h 10 _ rfl, box_cell h 11 _ rfl, box_cell h 12 _ rfl, box_cell h 13 _ rfl⟩
def rowC (x : MA) (k : Nat) : Array Value := #[.int .i64 (x.q.n : Int), .int .i64 (if 0 < k then (x.l1.n : Int) else 0), .int .i64 (if 1 < k then (x.l2.n : Int) else 0), .int .i64 (if 2 < k then (x.l3.n : Int) else 0)]
theorem rowC_step (x : MA) (k : Nat) (hk : k < 3) : (rowC x k).setIfInBounds (1 + k) (.int .i64 ((nth3 x k).n : Int)) = rowC x (k + 1) := by
  have : k = 0 ∨ k = 1 ∨ k = 2 := by omega
  rcases this with rfl | rfl | rfl <;> simp [rowC, nth3]
theorem rowC_at (x : MA) (k : Nat) (hk : k < 3) : ∃ v, (rowC x k)[1 + k]? = some (.int .i64 v) := by
  have : k = 0 ∨ k = 1 ∨ k = 2 := by omega
  rcases this with rfl | rfl | rfl <;> simp [rowC]
theorem three_below (w : World) (a b c : Obj) : Below w.heap.size w (((w.alloc a).alloc b).alloc c) ∧ (((w.alloc a).alloc b).alloc c).heap[w.heap.size]? = some a ∧ (((w.alloc a).alloc b).alloc c).heap[w.heap.size + 1]? = some b ∧ (((w.alloc a).alloc b).alloc c).heap[w.heap.size + 1 + 1]? = some c ∧ (((w.alloc a).alloc b).alloc c).heap.size = w.heap.size + 1 + 1 + 1 := by
  have s1 : (w.alloc a).heap.size = w.heap.size + 1 := by simp
  have s2 : ((w.alloc a).alloc b).heap.size = w.heap.size + 1 + 1 := by simp
  have n1 := heap_alloc_new w a
  have n2 := heap_alloc_new (w.alloc a) b
  have n3 := heap_alloc_new ((w.alloc a).alloc b) c
  rw [s1] at n2
  rw [s2] at n3
  refine ⟨(((Below.refl _ w).alloc (Nat.le_refl _) _).alloc (by omega) _).alloc (by omega) _, ?_, ?_, n3, by simp⟩
  · rw [Below.heap_alloc _ _ _ (by omega), Below.heap_alloc _ _ _ (by omega)]; exact n1
  · rw [Below.heap_alloc _ _ _ (by omega)]; exact n2
set_option maxRecDepth 100000 in
set_option maxHeartbeats 1000000 in
theorem counts_any (H : Hd) (x : MA) (w : World) : Calls Tryz.prog 77 #[.agg #[.int .u16 H.id, .bool H.rs, .int .i64 H.op, .bool H.aa, .bool H.tc, .bool H.rd, .bool H.ra, .bool H.ad, .bool H.cd, .int .i64 H.rc, .slice x.q.a x.q.n x.q.c, .slice x.l1.a x.l1.n x.l1.c, .slice x.l2.a x.l2.n x.l2.c, .slice x.l3.a x.l3.n x.l3.c]] w fun e w' => e = .returned (.agg #[.int .i64 (x.q.n : Int), .int .i64 (x.l1.n : Int), .int .i64 (x.l2.n : Int), .int .i64 (x.l3.n : Int)]) ∧ Hid (Below w.heap.size w w') := by
  have KS : Hid (∀ W, Calls Tryz.prog 47 #[.pointer (some ⟨w.heap.size, 0, none⟩)] W fun e w' => e = .returned (.agg #[.pointer (some ⟨w.heap.size, 11, none⟩), .pointer (some ⟨w.heap.size, 12, none⟩), .pointer (some ⟨w.heap.size, 13, none⟩)]) ∧ Hid (Below W.heap.size W w')) := fun W => sections_any w.heap.size W
  obtain ⟨f1, f2, f3, f4, f5⟩ := three_below w (.cells #[.int .u16 H.id, .bool H.rs, .int .i64 H.op, .bool H.aa, .bool H.tc, .bool H.rd, .bool H.ra, .bool H.ad, .bool H.cd, .int .i64 H.rc, .slice x.q.a x.q.n x.q.c, .slice x.l1.a x.l1.n x.l1.c, .slice x.l2.a x.l2.n x.l2.c, .slice x.l3.a x.l3.n x.l3.c] 26) (.cells #[.int .i64 0, .int .i64 0, .int .i64 0, .int .i64 0] 74) (.cells #[.int .i64 (x.q.n : Int), .int .i64 0, .int .i64 0, .int .i64 0] 74)
  have HF : Hid (Below w.heap.size w (((w.alloc (.cells #[.int .u16 H.id, .bool H.rs, .int .i64 H.op, .bool H.aa, .bool H.tc, .bool H.rd, .bool H.ra, .bool H.ad, .bool H.cd, .int .i64 H.rc, .slice x.q.a x.q.n x.q.c, .slice x.l1.a x.l1.n x.l1.c, .slice x.l2.a x.l2.n x.l2.c, .slice x.l3.a x.l3.n x.l3.c] 26)).alloc (.cells #[.int .i64 0, .int .i64 0, .int .i64 0, .int .i64 0] 74)).alloc (.cells #[.int .i64 (x.q.n : Int), .int .i64 0, .int .i64 0, .int .i64 0] 74)) ∧ _ ∧ _ ∧ _ ∧ _) := ⟨f1, f2, f3, f4, f5⟩
  clear f1 f2 f3 f4 f5
  go_enter Tryz.func77, Tryz.ntmps77
  go_wp2_with fail
  refine (KS.out _).mono ?_
  rintro e w1 ⟨rfl, H1⟩
  obtain ⟨b, hb⟩ : ∃ b, b = w.heap.size := ⟨_, rfl⟩
  have HB : Hid (w1.heap[b]? = some (.cells #[.int .u16 H.id, .bool H.rs, .int .i64 H.op, .bool H.aa, .bool H.tc, .bool H.rd, .bool H.ra, .bool H.ad, .bool H.cd, .int .i64 H.rc, .slice x.q.a x.q.n x.q.c, .slice x.l1.a x.l1.n x.l1.c, .slice x.l2.a x.l2.n x.l2.c, .slice x.l3.a x.l3.n x.l3.c] 26) ∧ w1.heap[b + 1]? = some (.cells #[.int .i64 0, .int .i64 0, .int .i64 0, .int .i64 0] 74) ∧ w1.heap[b + 1 + 1]? = some (.cells (rowC x 0) 74) ∧ Below w.heap.size w w1) := by
    have hs := HF.out.2.2.2.2
    rw [hb]
    exact ⟨(H1.out.block _ (by omega)).trans HF.out.2.1, (H1.out.block _ (by omega)).trans HF.out.2.2.1, (H1.out.block _ (by omega)).trans HF.out.2.2.2.1, HF.out.1.trans (H1.out.mono HF.out.1.size)⟩
  have HBW : Hid (b = w.heap.size) := hb
  rw [← hb]
  clear HF H1 KS hb
  go_wp2_with fail
  go_loopw [11] (fun z wr => ∃ k : Nat, k ≤ 3 ∧ z = .int .i64 k ∧ Hid (wr.heap[b]? = some (.cells #[.int .u16 H.id, .bool H.rs, .int .i64 H.op, .bool H.aa, .bool H.tc, .bool H.rd, .bool H.ra, .bool H.ad, .bool H.cd, .int .i64 H.rc, .slice x.q.a x.q.n x.q.c, .slice x.l1.a x.l1.n x.l1.c, .slice x.l2.a x.l2.n x.l2.c, .slice x.l3.a x.l3.n x.l3.c] 26) ∧ wr.heap[b + 1]? = some (.cells #[.int .i64 0, .int .i64 0, .int .i64 0, .int .i64 0] 74) ∧ wr.heap[b + 1 + 1]? = some (.cells (rowC x k) 74) ∧ Below w.heap.size w wr)) (fun z _ => 3 - (intOf z).toNat)
  case atStart => exact ⟨0, by omega, rfl, HB.out⟩
  case round =>
    obtain ⟨k, hk, rfl, HK⟩ := hrel
    by_cases hlt3 : k < 3
    · have h3 : (k : Int) < 3 := by omega
      have hix := ixS b k hlt3
      have hc := mbox_list HK.out.1 k hlt3
      have hlb := box_lt HK.out.1
      obtain ⟨v0, hv0⟩ := rowC_at x k hlt3
      have hc2 : wr.cell? ⟨b + 1 + 1, 1 + k, none⟩ = some (.int .i64 v0) := by simp only [World.cell?, HK.out.2.2.1]; exact hv0
      have hfz : wr.frozen? ⟨b + 1 + 1, 1 + k, none⟩ = false := box_frozen HK.out.2.2.1 _
      have hlb2 := box_lt HK.out.2.2.1
      have HST := Lib.hid (rowC_step x k hlt3)
      generalize nth3 x k = s at *
      go_wp2
      have hgr := grown_set wr (b + 1 + 1) (1 + k) (.int .i64 (s.n : Int))
      refine ⟨⟨k + 1, by omega, by go_num, (hgr.block b hlb (by simp; omega)).trans HK.out.1, (hgr.block (b + 1) (box_lt HK.out.2.1) (by simp)).trans HK.out.2.1, ?_, HK.out.2.2.2.setCell (by have := HBW.out; simp only; omega) _⟩, by simp [intOf]; omega⟩
      rw [← HST.out]
      exact box_set HK.out.2.2.1 _ _
    · obtain rfl : k = 3 := by omega
      have e1 := box_lt HK.out.2.1
      have e2 := box_lt HK.out.2.2.1
      have r0 : wr.cell? ⟨b + 1 + 1, 0, none⟩ = some (.int .i64 (x.q.n : Int)) := box_cell HK.out.2.2.1 0 _ rfl
      have r1 : wr.cell? ⟨b + 1 + 1, 1, none⟩ = some (.int .i64 (x.l1.n : Int)) := box_cell HK.out.2.2.1 1 _ rfl
      have r2 : wr.cell? ⟨b + 1 + 1, 2, none⟩ = some (.int .i64 (x.l2.n : Int)) := box_cell HK.out.2.2.1 2 _ rfl
      have r3 : wr.cell? ⟨b + 1 + 1, 3, none⟩ = some (.int .i64 (x.l3.n : Int)) := box_cell HK.out.2.2.1 3 _ rfl
      have z0 : wr.cell? ⟨b + 1, 0, none⟩ = some (.int .i64 0) := box_cell HK.out.2.1 0 _ rfl
      have z1 : wr.cell? ⟨b + 1, 1, none⟩ = some (.int .i64 0) := box_cell HK.out.2.1 1 _ rfl
      have z2 : wr.cell? ⟨b + 1, 2, none⟩ = some (.int .i64 0) := box_cell HK.out.2.1 2 _ rfl
      have z3 : wr.cell? ⟨b + 1, 3, none⟩ = some (.int .i64 0) := box_cell HK.out.2.1 3 _ rfl
      have y0 := box_frozen HK.out.2.1 0
      have y1 := box_frozen HK.out.2.1 1
      have y2 := box_frozen HK.out.2.1 2
      have y3 := box_frozen HK.out.2.1 3
      go_wp2
      have q3 := box_set (box_set (box_set (box_set HK.out.2.1 0 (.int .i64 (x.q.n : Int))) 1 (.int .i64 (x.l1.n : Int))) 2 (.int .i64 (x.l2.n : Int))) 3 (.int .i64 (x.l3.n : Int))
      have hbw := HBW.out
      have hbel := (((HK.out.2.2.2.setCell (p := ⟨b + 1, 0, none⟩) (by simp only; omega) (.int .i64 (x.q.n : Int))).setCell (p := ⟨b + 1, 1, none⟩) (by simp only; omega) (.int .i64 (x.l1.n : Int))).setCell (p := ⟨b + 1, 2, none⟩) (by simp only; omega) (.int .i64 (x.l2.n : Int))).setCell (p := ⟨b + 1, 3, none⟩) (by simp only; omega) (.int .i64 (x.l3.n : Int))
      generalize (((wr.setCell ⟨b + 1, 0, none⟩ (.int .i64 (x.q.n : Int))).setCell ⟨b + 1, 1, none⟩ (.int .i64 (x.l1.n : Int))).setCell ⟨b + 1, 2, none⟩ (.int .i64 (x.l2.n : Int))).setCell ⟨b + 1, 3, none⟩ (.int .i64 (x.l3.n : Int)) = W4 at *
      have y0 := box_cell q3 0 _ rfl
      have y1 := box_cell q3 1 _ rfl
      have y2 := box_cell q3 2 _ rfl
      have y3 := box_cell q3 3 _ rfl
      have ylt := box_lt q3
      refine bodyPost_ret (v := .agg #[.int .i64 (x.q.n : Int), .int .i64 (x.l1.n : Int), .int .i64 (x.l2.n : Int), .int .i64 (x.l3.n : Int)]) ?_ rfl ⟨rfl, hbel⟩
      simp [results, Tryz.results77, go_sem, y0, y1, y2, y3, ylt]
end Go.Proofs.YteplffhfeoephaaGreat
namespace Go.Proofs.YteplffhfeoephaaGreat
open Go.ChangeShapes Go.WideShapes Go.ChangeAt Go.RowKit Go.Maps
set_option linter.unusedVariables false
set_option linter.unusedSimpArgs false
/-- All, as it is read. -/
theorem all_rd (B g n : Nat) (tx : List Int) (pl : List (ByteArray × Nat)) (w : World) (h : Wr B w g tx pl) (hn : tx.length = n) (ht : n ≤ 100000) :
    Calls Tryz.prog 82 #[.pointer (some ⟨g, 0, none⟩)] w fun e w' => ∃ a' c', e = .returned (.slice a' n c') ∧ Hid (Rd w' a' tx ∧ n ≤ c' ∧ c' ≤ 9223372036854775807 ∧ Below w.heap.size w w') := by
  subst hn
  refine (all_any B g tx pl w h ht).mono ?_
  rintro e w' ⟨v, ys, rfl, H⟩
  obtain ⟨ao, rfl, hA⟩ := H.out.1.addr
  have h1 := hA.rdTake tx.length
  rw [H.out.2.1] at h1
  exact ⟨ao, ys.length, rfl, h1, hA.le.1, by have := hA.le.2; unfold maxLen at this; omega, H.out.2.2⟩
end Go.Proofs.YteplffhfeoephaaGreat
namespace Go.Proofs.YteplffhfeoephaaGreat
open Go.ChangeShapes Go.WideShapes Go.ChangeAt Go.RowKit Go.Maps
set_option linter.unusedVariables false
set_option linter.unusedSimpArgs false
/-- A list of records that can be read. -/
structure LRd (w : World) (s : Sl) (rs : List Rec) : Prop where
  rd : RdR w s.a rs
  len : rs.length = s.n
  cap : s.n ≤ s.c ∧ s.c ≤ 9223372036854775807
  nil : s.a = none → s.c = 0
theorem LRd.below {w w' : World} {s : Sl} {rs : List Rec} (h : LRd w s rs) (hb : Below w.heap.size w w') : LRd w' s rs := ⟨h.rd.below hb, h.len, h.cap, h.nil⟩
/-- A message that can be read. -/
structure MRd (w : World) (H : Hd) (x : MA) (m : Mg) : Prop where
  h : m.h = H
  q : QsRd w x.q m.qs
  l1 : LRd w x.l1 m.l1
  l2 : LRd w x.l2 m.l2
  l3 : LRd w x.l3 m.l3
  b : Mb m
theorem MRd.below {w w' : World} {H : Hd} {x : MA} {m : Mg} (h : MRd w H x m) (hb : Below w.heap.size w w') : MRd w' H x m := ⟨h.h, h.q.below hb, h.l1.below hb, h.l2.below hb, h.l3.below hb, h.b⟩
def nthL (m : Mg) (k : Nat) : List Rec := if k = 0 then m.l1 else if k = 1 then m.l2 else m.l3
theorem MRd.nth {w : World} {H : Hd} {x : MA} {m : Mg} (h : MRd w H x m) (k : Nat) : LRd w (nth3 x k) (nthL m k) ∧ ∀ r ∈ nthL m k, Rb r := by
  unfold nth3 nthL
  split
  · exact ⟨h.l1, h.b.2.2.1⟩
  · split
    · exact ⟨h.l2, h.b.2.2.2.1⟩
    · exact ⟨h.l3, h.b.2.2.2.2⟩
/-- What data have at most: as is gone through. -/
def BdM (m : Mg) : Prop := ∀ k, ∀ r ∈ nthL m k, Bd r.d
/-- The lists, one behind the other. -/
def aftm (m : Mg) (s : WSt) : Nat → WSt
  | 0 => s
  | k + 1 => prun (pls ((nthL m k).map prec)) (aftm m s k)
theorem pmsg_run (m : Mg) : prun (pmsg m) (some ([], [])) = aftm m (prun (pls (m.qs.map pqn)) (prun (pby (hdB m.h m.qs.length m.l1.length m.l2.length m.l3.length)) (some ([], [])))) 3 := by
  rw [pmsg, pbody, prun_seq, prun_seq, prun_seq, prun_seq]
  rfl
theorem ChkOk.nth {m : Mg} (h : ChkOk m) (k : Nat) : ∀ r ∈ nthL m k, nck r.ow = 0 ∧ checkF r.t r.d = 0 := by
  unfold nthL
  split
  · exact h.l1
  · split
    · exact h.l2
    · exact h.l3
/-- What write answers. -/
def WrR (r : WSt) (w' : World) (s : Sl) (er : Int) : Prop := match r with
  | none => er = 3 ∧ s = ⟨none, 0, 0⟩
  | some z => er = 0 ∧ BRd w' s z.1
def WrP (r : WSt) (w : World) (e : Ending) (w' : World) : Prop := ∃ (s : Sl) (er : Int), e = .returned (.tuple #[.slice s.a s.n s.c, .int .i64 er]) ∧ Hid (WrR r w' s er ∧ Below w.heap.size w w')
theorem head_ok (H : Hd) (x : MA) (c0 c1 c2 c3 : Nat) (hH : hdOk H) (hi : H.id < 65536) (h0 : c0 ≤ 65535) (h1 : c1 ≤ 65535) (h2 : c2 ≤ 65535) (h3 : c3 ≤ 65535) (W : World) :
    Calls Tryz.prog 45 #[.agg #[.int .u16 H.id, .bool H.rs, .int .i64 H.op, .bool H.aa, .bool H.tc, .bool H.rd, .bool H.ra, .bool H.ad, .bool H.cd, .int .i64 H.rc, .slice x.q.a x.q.n x.q.c, .slice x.l1.a x.l1.n x.l1.c, .slice x.l2.a x.l2.n x.l2.c, .slice x.l3.a x.l3.n x.l3.c], .agg #[.int .i64 (c0 : Int), .int .i64 (c1 : Int), .int .i64 (c2 : Int), .int .i64 (c3 : Int)]] W fun e w' => ∃ g', e = .returned (.tuple #[.slice (some ⟨g', 0, none⟩) 12 12, .int .i64 0]) ∧ Hid (Blk w' g' (hdB H c0 c1 c2 c3) ∧ Below W.heap.size W w') := by
  have h := bytes10 H.id H.rs H.op.toNat H.aa H.tc H.rd H.ra H.ad H.cd H.rc.toNat x.q.a x.l1.a x.l2.a x.l3.a x.q.n x.l1.n x.l2.n x.l3.n x.q.c x.l1.c x.l2.c x.l3.c (c0 : Int) (c1 : Int) (c2 : Int) (c3 : Int) W hi (by have := hH.2.1; omega) (by have := hH.2.2.2; omega)
  rw [Int.toNat_of_nonneg hH.1, Int.toNat_of_nonneg hH.2.2.1] at h
  refine h.mono ?_
  rintro e w' ⟨b1, b2, b3⟩
  obtain ⟨g', e1, e2, e3⟩ := b1 (by
    have hN := hdN_lt hH
    unfold hdN at hN
    intro m hm
    simp only [nsL, List.mem_cons, List.not_mem_nil, or_false] at hm
    unfold okN
    rcases hm with rfl | rfl | rfl | rfl | rfl | rfl <;> omega)
  exact ⟨g', e1, e3, b3⟩
theorem BRd.of {w' : World} {a : Option Addr} {n c : Nat} {zs : List Int} (h : Rd w' a zs) (hl : zs.length = n) (hc : n ≤ c) (hc2 : c ≤ 9223372036854775807) (h0 : zs ≠ []) : BRd w' ⟨a, n, c⟩ zs := by
  refine ⟨h, hl, ⟨hc, hc2⟩, fun e => ?_⟩
  rcases h.1 with h1 | ⟨b, o, e2, _⟩
  · exact absurd h1 h0
  · rw [show a = none from e] at e2; cases e2
theorem prun_nil {B : Nat} {w : World} {h g : Nat} {s : WSt} (hm : MW B w h g s) : prun (pls []) s = s := by
  cases s with
  | none => rfl
  | some S =>
    have := hm.2.2.len
    simp only [pls, prun, Option.bind_some, pby, List.length_nil, Nat.add_zero, List.append_nil]
    rw [if_neg (by omega)]
set_option maxRecDepth 100000 in
set_option maxHeartbeats 4000000 in
theorem mwrite_any (H : Hd) (x : MA) (m : Mg) (w : World) (hm : MRd w H x m) (hck : ChkOk m) (hbd : BdM m) :
    Calls Tryz.prog 42 #[.agg #[.int .u16 H.id, .bool H.rs, .int .i64 H.op, .bool H.aa, .bool H.tc, .bool H.rd, .bool H.ra, .bool H.ad, .bool H.cd, .int .i64 H.rc, .slice x.q.a x.q.n x.q.c, .slice x.l1.a x.l1.n x.l1.c, .slice x.l2.a x.l2.n x.l2.c, .slice x.l3.a x.l3.n x.l3.c]] w (WrP (prun (pmsg m) (some ([], []))) w) := by
  have hq := hm.q.len
  have e1 := hm.l1.len
  have e2 := hm.l2.len
  have e3 := hm.l3.len
  have hnq := hck.nq
  have hnr := hck.nr
  unfold tot at hnr
  have hH : hdOk H := by rw [← hm.h]; exact hck.hd
  have hid : H.id < 65536 := by rw [← hm.h]; exact hm.b.1
  have KC := fun W => Lib.hid (counts_any H x W)
  have KH := fun W => Lib.hid (head_ok H x x.q.n x.l1.n x.l2.n x.l3.n hH hid (by omega) (by omega) (by omega) (by omega) W)
  have KSec : Hid (∀ W, Calls Tryz.prog 47 #[.pointer (some ⟨w.heap.size, 0, none⟩)] W fun e w' => e = .returned (.agg #[.pointer (some ⟨w.heap.size, 11, none⟩), .pointer (some ⟨w.heap.size, 12, none⟩), .pointer (some ⟨w.heap.size, 13, none⟩)]) ∧ Hid (Below W.heap.size W w')) := fun W => sections_any w.heap.size W
  have HHD : Hid (hdB m.h m.qs.length m.l1.length m.l2.length m.l3.length = hdB H x.q.n x.l1.n x.l2.n x.l3.n) := (show _ = _ by rw [hm.h, hq, e1, e2, e3])
  generalize hdB H x.q.n x.l1.n x.l2.n x.l3.n = hb at *
  have hb0 : Below w.heap.size w (w.alloc (.cells #[.int .u16 H.id, .bool H.rs, .int .i64 H.op, .bool H.aa, .bool H.tc, .bool H.rd, .bool H.ra, .bool H.ad, .bool H.cd, .int .i64 H.rc, .slice x.q.a x.q.n x.q.c, .slice x.l1.a x.l1.n x.l1.c, .slice x.l2.a x.l2.n x.l2.c, .slice x.l3.a x.l3.n x.l3.c] 26)) := newq_below _ _
  have HBX : Hid ((w.alloc (.cells #[.int .u16 H.id, .bool H.rs, .int .i64 H.op, .bool H.aa, .bool H.tc, .bool H.rd, .bool H.ra, .bool H.ad, .bool H.cd, .int .i64 H.rc, .slice x.q.a x.q.n x.q.c, .slice x.l1.a x.l1.n x.l1.c, .slice x.l2.a x.l2.n x.l2.c, .slice x.l3.a x.l3.n x.l3.c] 26)).heap[w.heap.size]? = some (.cells #[.int .u16 H.id, .bool H.rs, .int .i64 H.op, .bool H.aa, .bool H.tc, .bool H.rd, .bool H.ra, .bool H.ad, .bool H.cd, .int .i64 H.rc, .slice x.q.a x.q.n x.q.c, .slice x.l1.a x.l1.n x.l1.c, .slice x.l2.a x.l2.n x.l2.c, .slice x.l3.a x.l3.n x.l3.c] 26)) := mbox_new H x w
  have HBel : Hid (Below w.heap.size w (w.alloc (.cells #[.int .u16 H.id, .bool H.rs, .int .i64 H.op, .bool H.aa, .bool H.tc, .bool H.rd, .bool H.ra, .bool H.ad, .bool H.cd, .int .i64 H.rc, .slice x.q.a x.q.n x.q.c, .slice x.l1.a x.l1.n x.l1.c, .slice x.l2.a x.l2.n x.l2.c, .slice x.l3.a x.l3.n x.l3.c] 26))) := hb0
  have HM : Hid (MRd w H x m ∧ ChkOk m ∧ BdM m) := ⟨hm, hck, hbd⟩
  have hqn : x.q.n ≤ 16 := by omega
  have hln : ∀ k, (nth3 x k).n ≤ 512 := by
    intro k
    unfold nth3
    split
    · omega
    · split <;> omega
  clear hm hck hbd hq e1 e2 e3 hH hid hnr hnq hb0
  go_enter Tryz.func42, Tryz.ntmps42
  go_wp2_with fail
  generalize w.alloc (.cells #[.int .u16 H.id, .bool H.rs, .int .i64 H.op, .bool H.aa, .bool H.tc, .bool H.rd, .bool H.ra, .bool H.ad, .bool H.cd, .int .i64 H.rc, .slice x.q.a x.q.n x.q.c, .slice x.l1.a x.l1.n x.l1.c, .slice x.l2.a x.l2.n x.l2.c, .slice x.l3.a x.l3.n x.l3.c] 26) = Z at *
  obtain ⟨b, hbb⟩ : ∃ b, b = w.heap.size := ⟨_, rfl⟩
  rw [← hbb] at HBX KSec ⊢
  have HBB : Hid (b = w.heap.size) := hbb
  clear hbb
  have KS : ∀ W, Below Z.heap.size Z W → (W.cell? ⟨b, 0, none⟩ = some (.int .u16 H.id) ∧ W.cell? ⟨b, 1, none⟩ = some (.bool H.rs) ∧ W.cell? ⟨b, 2, none⟩ = some (.int .i64 H.op) ∧ W.cell? ⟨b, 3, none⟩ = some (.bool H.aa) ∧ W.cell? ⟨b, 4, none⟩ = some (.bool H.tc) ∧ W.cell? ⟨b, 5, none⟩ = some (.bool H.rd) ∧ W.cell? ⟨b, 6, none⟩ = some (.bool H.ra) ∧ W.cell? ⟨b, 7, none⟩ = some (.bool H.ad) ∧ W.cell? ⟨b, 8, none⟩ = some (.bool H.cd) ∧ W.cell? ⟨b, 9, none⟩ = some (.int .i64 H.rc) ∧ W.cell? ⟨b, 10, none⟩ = some (.slice x.q.a x.q.n x.q.c) ∧ W.cell? ⟨b, 11, none⟩ = some (.slice x.l1.a x.l1.n x.l1.c) ∧ W.cell? ⟨b, 12, none⟩ = some (.slice x.l2.a x.l2.n x.l2.c) ∧ W.cell? ⟨b, 13, none⟩ = some (.slice x.l3.a x.l3.n x.l3.c)) := fun W hW => mbox_cells ((hW.block b (box_lt HBX.out)).trans HBX.out)
  obtain ⟨z0, z1, z2, z3, z4, z5, z6, z7, z8, z9, z10, z11, z12, z13⟩ := KS Z (Below.refl _ _)
  have hbZ := box_lt HBX.out
  go_region_held3 (fun W => (W.cell? ⟨b, 0, none⟩ = some (.int .u16 H.id) ∧ W.cell? ⟨b, 1, none⟩ = some (.bool H.rs) ∧ W.cell? ⟨b, 2, none⟩ = some (.int .i64 H.op) ∧ W.cell? ⟨b, 3, none⟩ = some (.bool H.aa) ∧ W.cell? ⟨b, 4, none⟩ = some (.bool H.tc) ∧ W.cell? ⟨b, 5, none⟩ = some (.bool H.rd) ∧ W.cell? ⟨b, 6, none⟩ = some (.bool H.ra) ∧ W.cell? ⟨b, 7, none⟩ = some (.bool H.ad) ∧ W.cell? ⟨b, 8, none⟩ = some (.bool H.cd) ∧ W.cell? ⟨b, 9, none⟩ = some (.int .i64 H.rc) ∧ W.cell? ⟨b, 10, none⟩ = some (.slice x.q.a x.q.n x.q.c) ∧ W.cell? ⟨b, 11, none⟩ = some (.slice x.l1.a x.l1.n x.l1.c) ∧ W.cell? ⟨b, 12, none⟩ = some (.slice x.l2.a x.l2.n x.l2.c) ∧ W.cell? ⟨b, 13, none⟩ = some (.slice x.l3.a x.l3.n x.l3.c))) (first | exact KS _ HB2.out | exact KS _ HB1.out | exact KS _ (Below.refl Z.heap.size Z).drew | exact KS _ (Below.refl Z.heap.size Z) | exact KS _ HB2.out.drew | exact KS _ HB1.out.drew) (first
    | (go_at_call 77; refine Calls.mono (KC _).out ?_; rintro e w1 ⟨rfl, H1⟩; have HB1 : Hid (Below Z.heap.size Z w1) := (by first | exact Below.trans ((Below.refl Z.heap.size Z).drew) (Below.mono H1.out (Below.size ((Below.refl Z.heap.size Z).drew))) | exact Below.trans (Below.refl Z.heap.size Z) (Below.mono H1.out (Below.size (Below.refl Z.heap.size Z)))))
    | (go_at_call 45; refine Calls.mono (KH _).out ?_; rintro e w2 ⟨gh, rfl, H2⟩; have HB2 : Hid (Below Z.heap.size Z w2) := (by first | exact Below.trans HB1.out (Below.mono H2.out.2 (Below.size HB1.out)) | exact Below.trans HB1.out.drew (Below.mono H2.out.2 (Below.size HB1.out.drew)))))
  have HBW2 : Hid (Below w.heap.size w w2 ∧ w2.heap[b]? = some (.cells #[.int .u16 H.id, .bool H.rs, .int .i64 H.op, .bool H.aa, .bool H.tc, .bool H.rd, .bool H.ra, .bool H.ad, .bool H.cd, .int .i64 H.rc, .slice x.q.a x.q.n x.q.c, .slice x.l1.a x.l1.n x.l1.c, .slice x.l2.a x.l2.n x.l2.c, .slice x.l3.a x.l3.n x.l3.c] 26) ∧ Blk w2 gh hb) := ⟨HBel.out.trans (HB2.out.mono HBel.out.size), (HB2.out.block b hbZ).trans HBX.out, H2.out.1⟩
  clear KC KH KS HB1 HB2 H1 H2 z0 z1 z2 z3 z4 z5 z6 z7 z8 z9 z10 z11 z12 z13 hbZ HBX
  have KN := Lib.hid (sqnew_any w2)
  go_wp2_with fail
  refine KN.out.mono ?_
  rintro e w3 ⟨rfl, H3⟩
  obtain ⟨B, hB⟩ : ∃ B, B = w2.heap.size := ⟨_, rfl⟩
  obtain ⟨g, hg⟩ : ∃ g, g = w2.heap.size + 1 := ⟨_, rfl⟩
  have HBg : Hid (B = w2.heap.size ∧ g = B + 1) := ⟨hB, by omega⟩
  have HMW : Hid (MW B (w3.alloc (.cells #[.pointer (some ⟨g, 0, none⟩), .int .i64 0] 127)) w3.heap.size g (some ([], [])) ∧ Below B w2 (w3.alloc (.cells #[.pointer (some ⟨g, 0, none⟩), .int .i64 0] 127))) := by
    have hb3 : Below w3.heap.size w3 (w3.alloc (.cells #[.pointer (some ⟨g, 0, none⟩), .int .i64 0] 127)) := newq_below _ _
    have hs := H3.out.2.size
    rw [hg, hB]
    refine ⟨⟨hs, Nat.le_trans hs (newq_below w3 _).size, ⟨heap_alloc_new _ _, H3.out.1.below (newq_below w3 _), by simp, by simp, by simp⟩⟩, H3.out.2.trans ((newq_below w3 _).mono hs)⟩
  rw [← hg]
  clear hg hB KN H3
  obtain ⟨h, hh⟩ : ∃ h, h = w3.heap.size := ⟨_, rfl⟩
  rw [← hh] at HMW
  go_wp2_with fail
  rw [← hh]
  clear hh
  generalize w3.alloc (.cells #[.pointer (some ⟨g, 0, none⟩), .int .i64 0] 127) = w4 at *
  have K4 := Lib.hid (mw_bytes B h g _ (some ⟨gh, 0, none⟩) 12 12 hb w4 HMW.out.1 (by
    have := (HBW2.out.2.2.rd 12).below (by rw [← HBg.out.1]; exact HMW.out.2)
    rw [List.take_of_length_le (by rw [← HHD.out, hdB_len]; exact Nat.le_refl _)] at this
    exact this) (by rw [← HHD.out, hdB_len]) (by simp) (by omega))
  refine K4.out.mono ?_
  rintro e w5 ⟨rfl, H5⟩
  generalize hS0 : prun (pby hb) (some ([], [])) = S0 at *
  have HS0 := Lib.hid hS0
  have HB5 : Hid (Below B w2 w5) := HMW.out.2.trans H5.out.2.below
  have HX5 : Hid (w5.heap[b]? = some (.cells #[.int .u16 H.id, .bool H.rs, .int .i64 H.op, .bool H.aa, .bool H.tc, .bool H.rd, .bool H.ra, .bool H.ad, .bool H.cd, .int .i64 H.rc, .slice x.q.a x.q.n x.q.c, .slice x.l1.a x.l1.n x.l1.c, .slice x.l2.a x.l2.n x.l2.c, .slice x.l3.a x.l3.n x.l3.c] 26)) := (HB5.out.block b (by rw [HBg.out.1]; exact box_lt HBW2.out.2.1)).trans HBW2.out.2.1
  have c10 := box_cell HX5.out 10 _ rfl
  have hl5 := box_lt HX5.out
  have HMM : Hid (∀ W, Below B w2 W → MRd W H x m) := fun W hW => (HM.out.1.below HBW2.out.1).below (by rw [← HBg.out.1]; exact hW)
  have HQL : Hid (m.qs.length = x.q.n) := HM.out.1.q.len
  clear K4 hS0
  go_wp2_with fail
  go_loopw [30] (fun z wr => ∃ k : Nat, k ≤ x.q.n ∧ z = .int .i64 k ∧ Hid (MW B wr h g (prun (pls ((m.qs.take k).map pqn)) S0) ∧ Below B w2 wr)) (fun z _ => x.q.n - (intOf z).toNat)
  case atStart =>
    refine ⟨0, Nat.zero_le _, rfl, ?_, HB5.out⟩
    have e : prun (pls ((m.qs.take 0).map pqn)) S0 = S0 := prun_nil H5.out.1
    rw [e]
    exact H5.out.1
  case round =>
    obtain ⟨k, hk, rfl, HK⟩ := hrel
    by_cases hlt : k < x.q.n
    · have hlt' : (k : Int) < (x.q.n : Int) := by omega
      have hks : k < m.qs.length := by rw [HQL.out]; exact hlt
      obtain ⟨qb, qo, hqa, hqb, y, y0, y1, y2, hy⟩ := ((HMM.out wr HK.out.2).q).at k hks
      have HKQ : Hid (∀ W, Below wr.heap.size wr W → MW B W h g (prun (pls ((m.qs.take k).map pqn)) S0) → Calls Tryz.prog 80 #[.pointer (some ⟨h, 0, none⟩), .agg #[.slice y.s.a y.s.n y.s.c, .int .u16 y.ty, .int .u16 y.cl]] W fun e w' => e = .returned (.tuple #[]) ∧ Hid (MW B w' h g (prun (pqn m.qs[k]) (prun (pls ((m.qs.take k).map pqn)) S0)) ∧ Fm B g W w')) := fun W hW hMW => mw_question B h g _ y m.qs[k] W hMW (hy.below hW) (HM.out.2.1.qs _ (List.getElem_mem hks))
      have HTK : Hid ((m.qs.take (k + 1)).map pqn = (m.qs.take k).map pqn ++ [pqn m.qs[k]]) := (show _ = _ by rw [List.take_succ_eq_append_getElem hks, List.map_append]; rfl)
      clear hy
      generalize x.q.a = qa at *
      subst hqa
      have HKM := Lib.hid HK.out.1
      go_wp2_with fail
      have hba : Below wr.heap.size wr (wr.alloc (.cells #[.slice y.s.a y.s.n y.s.c, .int .u16 (y.ty : Int), .int .u16 (y.cl : Int)] 64)) := newq_below _ _
      refine (HKQ.out _ hba (HKM.out.below hba)).mono ?_
      rintro e w6 ⟨rfl, H6⟩
      go_wp2
      refine ⟨⟨k + 1, by omega, by go_num, ?_, HK.out.2.trans ((hba.mono HKM.out.2.1).trans H6.out.2.below)⟩, by simp [intOf]; omega⟩
      rw [HTK.out, pls_snoc]
      exact H6.out.1
    · have hkk : k = x.q.n := by omega
      subst k
      have HK2 : Hid (MW B wr h g (prun (pls (m.qs.map pqn)) S0) ∧ Below B w2 wr) := by have := HK.out; rw [← HQL.out, List.take_length] at this; exact this
      generalize hS1 : prun (pls (m.qs.map pqn)) S0 = S1 at *
      have HS1 := Lib.hid hS1
      clear HK hS1
      go_wp2_with fail
      refine (KSec.out _).mono ?_
      rintro e w7 ⟨rfl, H7⟩
      have HM7 : Hid (MW B w7 h g S1 ∧ Below B w2 w7) := ⟨HK2.out.1.below H7.out, HK2.out.2.trans (H7.out.mono HK2.out.1.2.1)⟩
      clear HK2
      have HBBB : Hid (b < B) := (by rw [HBg.out.1]; exact box_lt HBW2.out.2.1 : b < B)
      obtain ⟨wz, hwz⟩ : ∃ z, z = wr := ⟨_, rfl⟩
      subst hwz
      go_wp2_with fail
      go_loopw [39] (fun z wr => ∃ j : Nat, j ≤ 3 ∧ z = .int .i64 j ∧ Hid (MW B wr h g (aftm m S1 j) ∧ Below B w2 wr)) (fun z _ => 3 - (intOf z).toNat)
      case atStart => exact ⟨0, by omega, rfl, HM7.out⟩
      case round =>
        obtain ⟨j, hj, rfl, HJ⟩ := hrel
        by_cases hlt3 : j < 3
        · have h3 : (j : Int) < 3 := by omega
          have hix := ixS b j hlt3
          have HXw : Hid (wr.heap[b]? = some (.cells #[.int .u16 H.id, .bool H.rs, .int .i64 H.op, .bool H.aa, .bool H.tc, .bool H.rd, .bool H.ra, .bool H.ad, .bool H.cd, .int .i64 H.rc, .slice x.q.a x.q.n x.q.c, .slice x.l1.a x.l1.n x.l1.c, .slice x.l2.a x.l2.n x.l2.c, .slice x.l3.a x.l3.n x.l3.c] 26)) := (HJ.out.2.block b HBBB.out).trans HBW2.out.2.1
          have hc := mbox_list HXw.out j hlt3
          have hlw := box_lt HXw.out
          have hsn := hln j
          have HLL : Hid (∀ W, Below B w2 W → LRd W (nth3 x j) (nthL m j) ∧ ∀ r ∈ nthL m j, Rb r) := fun W hW => (HMM.out W hW).nth j
          have HCR : Hid (∀ r ∈ nthL m j, (nck r.ow = 0 ∧ checkF r.t r.d = 0) ∧ Bd r.d) := fun r hr => ⟨HM.out.2.1.nth j r hr, HM.out.2.2 j r hr⟩
          have HAF : Hid (aftm m S1 (j + 1) = prun (pls ((nthL m j).map prec)) (aftm m S1 j)) := rfl
          have HMJ := Lib.hid HJ.out
          generalize nth3 x j = sl at *
          generalize aftm m S1 j = SJ at *
          generalize nthL m j = rl at *
          obtain ⟨sa, sn, sc⟩ := sl
          simp only at hc hsn
          have HRL : Hid (rl.length = sn) := (HLL.out wr HMJ.out.2).1.len
          clear HJ HXw
          obtain ⟨wo, hwo⟩ : ∃ z, z = wr := ⟨_, rfl⟩
          subst hwo
          go_wp2_with fail
          go_loopw [46] (fun z wr => ∃ k : Nat, k ≤ sn ∧ z = .int .i64 k ∧ Hid (MW B wr h g (prun (pls ((rl.take k).map prec)) SJ) ∧ Below B w2 wr)) (fun z _ => sn - (intOf z).toNat)
          case atStart =>
            refine ⟨0, Nat.zero_le _, rfl, ?_, HMJ.out.2⟩
            have e : prun (pls ((rl.take 0).map prec)) SJ = SJ := prun_nil HMJ.out.1
            rw [e]
            exact HMJ.out.1
          case round =>
            obtain ⟨k, hk, rfl, HK⟩ := hrel
            by_cases hlt : k < sn
            · have hlt' : (k : Int) < (sn : Int) := by omega
              have hks : k < rl.length := by rw [HRL.out]; exact hlt
              obtain ⟨rb, ro, hra, hrb, y, hcells, hy⟩ := ((HLL.out w2 (Below.refl _ _)).1.rd).at k hks
              have hrB : rb < B := by rw [HBg.out.1]; exact hrb
              have hrw : rb < wr.heap.size := Nat.lt_of_lt_of_le hrB HK.out.1.2.1
              simp only at hra
              have y0 : wr.cell? ⟨rb, ro + k * 8, none⟩ = some (.slice y.o.a y.o.n y.o.c) := (HK.out.2.cell (p := ⟨rb, ro + k * 8, none⟩) hrB).trans (hcells 0 (by omega))
              have y1 : wr.cell? ⟨rb, ro + k * 8 + 1, none⟩ = some (.int .u16 (rl[k].t : Int)) := (HK.out.2.cell (p := ⟨rb, ro + k * 8 + 1, none⟩) hrB).trans (hcells 1 (by omega))
              have y2 : wr.cell? ⟨rb, ro + k * 8 + 2, none⟩ = some (.int .u16 (rl[k].cl : Int)) := (HK.out.2.cell (p := ⟨rb, ro + k * 8 + 2, none⟩) hrB).trans (hcells 2 (by omega))
              have y3 : wr.cell? ⟨rb, ro + k * 8 + 3, none⟩ = some (.int .u32 (rl[k].tt : Int)) := (HK.out.2.cell (p := ⟨rb, ro + k * 8 + 3, none⟩) hrB).trans (hcells 3 (by omega))
              have y4 : wr.cell? ⟨rb, ro + k * 8 + 4, none⟩ = some (.slice y.d.p1.a y.d.p1.n y.d.p1.c) := (HK.out.2.cell (p := ⟨rb, ro + k * 8 + 4, none⟩) hrB).trans (hcells 4 (by omega))
              have y5 : wr.cell? ⟨rb, ro + k * 8 + 5, none⟩ = some (.slice y.d.p2.a y.d.p2.n y.d.p2.c) := (HK.out.2.cell (p := ⟨rb, ro + k * 8 + 5, none⟩) hrB).trans (hcells 5 (by omega))
              have y6 : wr.cell? ⟨rb, ro + k * 8 + 6, none⟩ = some (.slice y.d.p3.a y.d.p3.n y.d.p3.c) := (HK.out.2.cell (p := ⟨rb, ro + k * 8 + 6, none⟩) hrB).trans (hcells 6 (by omega))
              have y7 : wr.cell? ⟨rb, ro + k * 8 + 7, none⟩ = some (.slice y.d.p4.a y.d.p4.n y.d.p4.c) := (HK.out.2.cell (p := ⟨rb, ro + k * 8 + 7, none⟩) hrB).trans (hcells 7 (by omega))
              have HKR : Hid (∀ W, Below wr.heap.size wr W → MW B W h g (prun (pls ((rl.take k).map prec)) SJ) → Calls Tryz.prog 81 #[.pointer (some ⟨h, 0, none⟩), .agg #[.slice y.o.a y.o.n y.o.c, .int .u16 rl[k].t, .int .u16 rl[k].cl, .int .u32 rl[k].tt, .slice y.d.p1.a y.d.p1.n y.d.p1.c, .slice y.d.p2.a y.d.p2.n y.d.p2.c, .slice y.d.p3.a y.d.p3.n y.d.p3.c, .slice y.d.p4.a y.d.p4.n y.d.p4.c]] W fun e w' => e = .returned (.tuple #[]) ∧ Hid (MW B w' h g (prun (prec rl[k]) (prun (pls ((rl.take k).map prec)) SJ)) ∧ Fm B g W w')) := by
                intro W hW hMW
                have hmem := List.getElem_mem hks
                have hcr := HCR.out _ hmem
                exact mw_record B h g _ y rl[k] w2 W hMW HBg.out.1.symm hy (HK.out.2.trans (hW.mono HK.out.1.2.1)) hcr.1.1 hcr.1.2 hcr.2 ((HLL.out w2 (Below.refl _ _)).2 _ hmem)
              have HTK : Hid ((rl.take (k + 1)).map prec = (rl.take k).map prec ++ [prec rl[k]]) := (show _ = _ by rw [List.take_succ_eq_append_getElem hks, List.map_append]; rfl)
              clear hy hcells hrb
              generalize rl[k] = r at *
              subst hra
              have HKM := Lib.hid HK.out.1
              go_wp2_with fail
              have hba : Below wr.heap.size wr (wr.alloc (.cells #[.slice y.o.a y.o.n y.o.c, .int .u16 r.t, .int .u16 r.cl, .int .u32 r.tt, .slice y.d.p1.a y.d.p1.n y.d.p1.c, .slice y.d.p2.a y.d.p2.n y.d.p2.c, .slice y.d.p3.a y.d.p3.n y.d.p3.c, .slice y.d.p4.a y.d.p4.n y.d.p4.c] 61)) := newq_below _ _
              refine (HKR.out _ hba (HKM.out.below hba)).mono ?_
              rintro e w6 ⟨rfl, H6⟩
              go_wp2
              refine ⟨⟨k + 1, by omega, by go_num, ?_, HK.out.2.trans ((hba.mono HKM.out.2.1).trans H6.out.2.below)⟩, by simp [intOf]; omega⟩
              rw [HTK.out, pls_snoc]
              exact H6.out.1
            · have hkk : k = sn := by omega
              subst k
              have HK2 : Hid (MW B wr h g (prun (pls (rl.map prec)) SJ) ∧ Below B w2 wr) := by have := HK.out; rw [← HRL.out, List.take_length] at this; exact this
              go_wp2
              refine ⟨⟨j + 1, by omega, by go_num, ?_, HK2.out.2⟩, by simp [intOf]; omega⟩
              rw [HAF.out]
              exact HK2.out.1
        · have hjj : j = 3 := by omega
          subst j
          have HRES : Hid (prun (pmsg m) (some ([], [])) = aftm m S1 3) := (show _ = _ by rw [pmsg_run, HHD.out, HS0.out, HS1.out])
          have HJ2 := Lib.hid HJ.out
          generalize aftm m S1 3 = SF at *
          clear HJ
          have HBE : Hid (Below w.heap.size w wr) := HBW2.out.1.trans (HJ2.out.2.mono (by rw [HBg.out.1]; exact HBW2.out.1.size))
          obtain ⟨m0, m1⟩ := HJ2.out.1.ptr
          cases SF with
          | none =>
            have c1 : wr.cell? ⟨h, 1, none⟩ = some (.int .i64 3) := box_cell HJ2.out.1.2.2.box 1 _ rfl
            go_wp2_with fail
            go_quiet (fail)
            go_wp2_with fail
            go_ret2
            rw [HRES.out]
            exact ⟨⟨none, 0, 0⟩, 3, rfl, ⟨rfl, rfl⟩, ⟨HBE.out.os, HBE.out.tape, HBE.out.output, HBE.out.size, HBE.out.block⟩⟩
          | some z =>
            obtain ⟨tx, pl⟩ := z
            have c1 : wr.cell? ⟨h, 1, none⟩ = some (.int .i64 0) := box_cell HJ2.out.1.2.2.box 1 _ rfl
            have HB12 : Hid (12 ≤ tx.length ∧ tx.length ≤ 65535) := by
              have := msg_back HM.out.2.1 HM.out.1.b HRES.out
              exact ⟨this.2.2, this.2.1⟩
            have KA := Lib.hid (all_rd B g tx.length tx pl wr HJ2.out.1.2.2.wr rfl (by have := HB12.out.2; omega))
            go_wp2_with fail
            refine KA.out.mono ?_
            rintro e w8 ⟨a8, c8, rfl, H8⟩
            go_wp2_with fail
            go_ret2
            rw [HRES.out]
            refine ⟨⟨a8, tx.length, c8⟩, 0, rfl, ⟨rfl, BRd.of H8.out.1 rfl H8.out.2.1 H8.out.2.2.1 (fun e => ?_)⟩, HBE.out.trans (H8.out.2.2.2.mono HBE.out.size)⟩
            have h12 := HB12.out.1
            simp only at e
            rw [e] at h12
            simp at h12
end Go.Proofs.YteplffhfeoephaaGreat
namespace Go.Proofs.YteplffhfeoephaaGreat
open Go.ChangeShapes Go.WideShapes Go.ChangeAt Go.RowKit Go.Maps
set_option linter.unusedVariables false
set_option linter.unusedSimpArgs false
theorem head_no (H : Hd) (x : MA) (hH : ¬ hdOk H) (W : World) :
    Calls Tryz.prog 45 #[.agg #[.int .u16 H.id, .bool H.rs, .int .i64 H.op, .bool H.aa, .bool H.tc, .bool H.rd, .bool H.ra, .bool H.ad, .bool H.cd, .int .i64 H.rc, .slice x.q.a x.q.n x.q.c, .slice x.l1.a x.l1.n x.l1.c, .slice x.l2.a x.l2.n x.l2.c, .slice x.l3.a x.l3.n x.l3.c], .agg #[.int .i64 0, .int .i64 0, .int .i64 0, .int .i64 0]] W fun e w' => e = .returned (.tuple #[.slice none 0 0, .int .i64 2]) ∧ Hid (Below W.heap.size W w') :=
  bytes10_arg H.id H.rs H.op H.aa H.tc H.rd H.ra H.ad H.cd H.rc x.q.a x.l1.a x.l2.a x.l3.a x.q.n x.l1.n x.l2.n x.l3.n x.q.c x.l1.c x.l2.c x.l3.c 0 0 0 0 W hH
/-- The head's part of Check. -/
theorem head_chk (H : Hd) (x : MA) (hi : H.id < 65536) (W : World) :
    Calls Tryz.prog 45 #[.agg #[.int .u16 H.id, .bool H.rs, .int .i64 H.op, .bool H.aa, .bool H.tc, .bool H.rd, .bool H.ra, .bool H.ad, .bool H.cd, .int .i64 H.rc, .slice x.q.a x.q.n x.q.c, .slice x.l1.a x.l1.n x.l1.c, .slice x.l2.a x.l2.n x.l2.c, .slice x.l3.a x.l3.n x.l3.c], .agg #[.int .i64 0, .int .i64 0, .int .i64 0, .int .i64 0]] W fun e w' => ∃ s : Sl, e = .returned (.tuple #[.slice s.a s.n s.c, .int .i64 (if hdOk H then 0 else 2)]) ∧ Hid (Below W.heap.size W w') := by
  by_cases h : hdOk H
  · refine (head_ok H x 0 0 0 0 h hi (by omega) (by omega) (by omega) (by omega) W).mono ?_
    rintro e w' ⟨g', rfl, H1⟩
    rw [if_pos h]
    exact ⟨⟨_, 12, 12⟩, rfl, H1.out.2⟩
  · refine (head_no H x h W).mono ?_
    rintro e w' ⟨rfl, H1⟩
    rw [if_neg h]
    exact ⟨⟨none, 0, 0⟩, rfl, H1⟩
set_option maxRecDepth 100000 in
set_option maxHeartbeats 1000000 in
theorem checkrec_any (x : RA) (r : Rec) (w : World) (h : RRd w x r) (hn : x.o.n ≤ 1000000) (hB : Bd r.d) :
    Calls Tryz.prog 48 #[.agg #[.slice x.o.a x.o.n x.o.c, .int .u16 r.t, .int .u16 r.cl, .int .u32 r.tt, .slice x.d.p1.a x.d.p1.n x.d.p1.c, .slice x.d.p2.a x.d.p2.n x.d.p2.c, .slice x.d.p3.a x.d.p3.n x.d.p3.c, .slice x.d.p4.a x.d.p4.n x.d.p4.c]] w fun e w' => e = .returned (.int .i64 (recE r)) ∧ Hid (Below w.heap.size w w') := by
  have hb0 : Below w.heap.size w (w.alloc (.cells #[.slice x.o.a x.o.n x.o.c, .int .u16 r.t, .int .u16 r.cl, .int .u32 r.tt, .slice x.d.p1.a x.d.p1.n x.d.p1.c, .slice x.d.p2.a x.d.p2.n x.d.p2.c, .slice x.d.p3.a x.d.p3.n x.d.p3.c, .slice x.d.p4.a x.d.p4.n x.d.p4.c] 61)) := newq_below _ _
  have hbx : (w.alloc (.cells #[.slice x.o.a x.o.n x.o.c, .int .u16 r.t, .int .u16 r.cl, .int .u32 r.tt, .slice x.d.p1.a x.d.p1.n x.d.p1.c, .slice x.d.p2.a x.d.p2.n x.d.p2.c, .slice x.d.p3.a x.d.p3.n x.d.p3.c, .slice x.d.p4.a x.d.p4.n x.d.p4.c] 61)).heap[w.heap.size]? = some (.cells #[.slice x.o.a x.o.n x.o.c, .int .u16 r.t, .int .u16 r.cl, .int .u32 r.tt, .slice x.d.p1.a x.d.p1.n x.d.p1.c, .slice x.d.p2.a x.d.p2.n x.d.p2.c, .slice x.d.p3.a x.d.p3.n x.d.p3.c, .slice x.d.p4.a x.d.p4.n x.d.p4.c] 61) := heap_alloc_new _ _
  have hA := (h.1.below hb0).arg
  have KC := Lib.hid (pcheckA_wide x.o.a x.o.n x.o.c r.ow _ hA.rd hA.len (fun ho => by have := labs_nsz ho; have := hA.len; omega) hA.n63 hA.z63)
  have KD := Lib.hid (check_any r.t x.d r.d _ (h.2.below hb0) hB)
  have HB0 := Lib.hid hb0
  obtain ⟨q, hq⟩ : ∃ q, nck r.ow = q := ⟨_, rfl⟩
  obtain ⟨cf, hcf⟩ : ∃ cf, checkF r.t r.d = cf := ⟨_, rfl⟩
  have HE : Hid (recE r = if q = 0 then cf else q) := (show _ = _ by unfold recE; rw [hq, hcf])
  rw [hq] at KC
  rw [hcf] at KD
  clear h hA hb0 hq hcf hB
  go_enter Tryz.func48, Tryz.ntmps48
  go_wp2_with fail
  generalize w.alloc (.cells #[.slice x.o.a x.o.n x.o.c, .int .u16 r.t, .int .u16 r.cl, .int .u32 r.tt, .slice x.d.p1.a x.d.p1.n x.d.p1.c, .slice x.d.p2.a x.d.p2.n x.d.p2.c, .slice x.d.p3.a x.d.p3.n x.d.p3.c, .slice x.d.p4.a x.d.p4.n x.d.p4.c] 61) = w0 at *
  obtain ⟨b, hbb⟩ : ∃ b, b = w.heap.size := ⟨_, rfl⟩
  rw [← hbb] at hbx ⊢
  have HBB : Hid (b = w.heap.size) := hbb
  clear hbb
  have k0 := box_cell hbx 0 _ rfl
  have k1 := box_cell hbx 1 _ rfl
  have k4 := box_cell hbx 4 _ rfl
  have k5 := box_cell hbx 5 _ rfl
  have k6 := box_cell hbx 6 _ rfl
  have k7 := box_cell hbx 7 _ rfl
  have hl := box_lt hbx
  clear hbx
  by_cases h0 : q = 0
  · rw [if_pos h0] at HE
    subst h0
    go_wp2_with fail
    refine KC.out.mono ?_
    rintro e w1 ⟨rfl, hw1⟩
    subst w1
    go_wp2_with fail
    refine KD.out.mono ?_
    rintro e w2 ⟨rfl, H2⟩
    go_wp2
    go_ret
    have e : b = w.heap.size := HBB.out
    exact ⟨by rw [HE.out]; rfl, HB0.out.trans (H2.out.mono HB0.out.size)⟩
  · rw [if_neg h0] at HE
    have h0' : (q != 0) = true := bne_iff_ne.2 h0
    go_wp2_with fail
    refine KC.out.mono ?_
    rintro e w1 ⟨rfl, hw1⟩
    subst w1
    go_wp2
    go_ret
    exact ⟨by rw [HE.out]; rfl, HB0.out⟩
/-- What a message has at most, where it is gone through. -/
structure Fin (m : Mg) : Prop where
  d : BdM m
  q : ∀ q ∈ m.qs, q.nm.length ≤ 1000000
  o : ∀ k, ∀ r ∈ nthL m k, r.ow.length ≤ 1000000
  t : tot m ≤ 1000000
  n : m.qs.length ≤ 1000000
theorem qnsE_at : ∀ (l : List Qn) (k : Nat) (h : k < l.length), (∀ i (hi : i < l.length), i < k → nck l[i].nm = 0) → nck l[k].nm ≠ 0 → qnsE l = nck l[k].nm
  | q :: l, 0, h, _, hk => by simp only [List.getElem_cons_zero] at hk ⊢; unfold qnsE; rw [if_neg hk]
  | q :: l, k + 1, h, hl, hk => by
    have h0 := hl 0 (by simp) (by omega)
    simp only [List.getElem_cons_zero] at h0
    simp only [List.getElem_cons_succ] at hk ⊢
    unfold qnsE
    rw [if_pos h0]
    refine qnsE_at l k (by simpa using h) (fun i hi hlt => ?_) hk
    have := hl (i + 1) (by simpa using hi) (by omega)
    simpa using this
theorem recsE_at : ∀ (l : List Rec) (k : Nat) (h : k < l.length), (∀ i (hi : i < l.length), i < k → recE l[i] = 0) → recE l[k] ≠ 0 → recsE l = recE l[k]
  | q :: l, 0, h, _, hk => by simp only [List.getElem_cons_zero] at hk ⊢; unfold recsE; rw [if_neg hk]
  | q :: l, k + 1, h, hl, hk => by
    have h0 := hl 0 (by simp) (by omega)
    simp only [List.getElem_cons_zero] at h0
    simp only [List.getElem_cons_succ] at hk ⊢
    unfold recsE
    rw [if_pos h0]
    refine recsE_at l k (by simpa using h) (fun i hi hlt => ?_) hk
    have := hl (i + 1) (by simpa using hi) (by omega)
    simpa using this
theorem recsE_none : ∀ (l : List Rec), (∀ i (hi : i < l.length), recE l[i] = 0) → recsE l = 0
  | [], _ => rfl
  | q :: l, hl => by
    have h0 := hl 0 (by simp)
    simp only [List.getElem_cons_zero] at h0
    unfold recsE
    rw [if_pos h0]
    refine recsE_none l (fun i hi => ?_)
    have := hl (i + 1) (by simpa using hi)
    simpa using this
theorem qnsE_none : ∀ (l : List Qn), (∀ i (hi : i < l.length), nck l[i].nm = 0) → qnsE l = 0
  | [], _ => rfl
  | q :: l, hl => by
    have h0 := hl 0 (by simp)
    simp only [List.getElem_cons_zero] at h0
    unfold qnsE
    rw [if_pos h0]
    refine qnsE_none l (fun i hi => ?_)
    have := hl (i + 1) (by simpa using hi)
    simpa using this
theorem all_at (m : Mg) (j : Nat) (hj : j < 3) (hl : ∀ i, i < j → recsE (nthL m i) = 0) (hk : recsE (nthL m j) ≠ 0) : recsE (m.l1 ++ (m.l2 ++ m.l3)) = recsE (nthL m j) := by
  have : j = 0 ∨ j = 1 ∨ j = 2 := by omega
  rcases this with rfl | rfl | rfl
  · have e : nthL m 0 = m.l1 := rfl
    rw [e] at hk ⊢
    rw [recsE_app, if_neg hk]
  · have e0 : recsE m.l1 = 0 := hl 0 (by omega)
    have e : nthL m 1 = m.l2 := rfl
    rw [e] at hk ⊢
    rw [recsE_app, if_pos e0, recsE_app, if_neg hk]
  · have e0 : recsE m.l1 = 0 := hl 0 (by omega)
    have e1 : recsE m.l2 = 0 := hl 1 (by omega)
    have e : nthL m 2 = m.l3 := rfl
    rw [e] at hk ⊢
    rw [recsE_app, if_pos e0, recsE_app, if_pos e1]
theorem all_none (m : Mg) (hl : ∀ i, i < 3 → recsE (nthL m i) = 0) : recsE (m.l1 ++ (m.l2 ++ m.l3)) = 0 := by
  have e0 : recsE m.l1 = 0 := hl 0 (by omega)
  have e1 : recsE m.l2 = 0 := hl 1 (by omega)
  have e2 : recsE m.l3 = 0 := hl 2 (by omega)
  rw [recsE_app, if_pos e0, recsE_app, if_pos e1, e2]
set_option maxRecDepth 100000 in
set_option maxHeartbeats 4000000 in
theorem check_msg (H : Hd) (x : MA) (m : Mg) (w : World) (hm : MRd w H x m) (hF : Fin m) :
    Calls Tryz.prog 16 #[.agg #[.int .u16 H.id, .bool H.rs, .int .i64 H.op, .bool H.aa, .bool H.tc, .bool H.rd, .bool H.ra, .bool H.ad, .bool H.cd, .int .i64 H.rc, .slice x.q.a x.q.n x.q.c, .slice x.l1.a x.l1.n x.l1.c, .slice x.l2.a x.l2.n x.l2.c, .slice x.l3.a x.l3.n x.l3.c]] w fun e w' => e = .returned (.int .i64 (chkM m)) ∧ Hid (Below w.heap.size w w') := by
  have hid : H.id < 65536 := by rw [← hm.h]; exact hm.b.1
  have hb0 : Below w.heap.size w (w.alloc (.cells #[.int .u16 H.id, .bool H.rs, .int .i64 H.op, .bool H.aa, .bool H.tc, .bool H.rd, .bool H.ra, .bool H.ad, .bool H.cd, .int .i64 H.rc, .slice x.q.a x.q.n x.q.c, .slice x.l1.a x.l1.n x.l1.c, .slice x.l2.a x.l2.n x.l2.c, .slice x.l3.a x.l3.n x.l3.c] 26)) := newq_below _ _
  have HBX : Hid ((w.alloc (.cells #[.int .u16 H.id, .bool H.rs, .int .i64 H.op, .bool H.aa, .bool H.tc, .bool H.rd, .bool H.ra, .bool H.ad, .bool H.cd, .int .i64 H.rc, .slice x.q.a x.q.n x.q.c, .slice x.l1.a x.l1.n x.l1.c, .slice x.l2.a x.l2.n x.l2.c, .slice x.l3.a x.l3.n x.l3.c] 26)).heap[w.heap.size]? = some (.cells #[.int .u16 H.id, .bool H.rs, .int .i64 H.op, .bool H.aa, .bool H.tc, .bool H.rd, .bool H.ra, .bool H.ad, .bool H.cd, .int .i64 H.rc, .slice x.q.a x.q.n x.q.c, .slice x.l1.a x.l1.n x.l1.c, .slice x.l2.a x.l2.n x.l2.c, .slice x.l3.a x.l3.n x.l3.c] 26)) := mbox_new H x w
  have HBel : Hid (Below w.heap.size w (w.alloc (.cells #[.int .u16 H.id, .bool H.rs, .int .i64 H.op, .bool H.aa, .bool H.tc, .bool H.rd, .bool H.ra, .bool H.ad, .bool H.cd, .int .i64 H.rc, .slice x.q.a x.q.n x.q.c, .slice x.l1.a x.l1.n x.l1.c, .slice x.l2.a x.l2.n x.l2.c, .slice x.l3.a x.l3.n x.l3.c] 26))) := hb0
  have HM : Hid (MRd w H x m ∧ Fin m) := ⟨hm, hF⟩
  have hq := hm.q.len
  have e1 := hm.l1.len
  have e2 := hm.l2.len
  have e3 := hm.l3.len
  have HTOT : Hid (tot m = x.l1.n + x.l2.n + x.l3.n ∧ m.qs.length = x.q.n ∧ m.h = H) := ⟨by unfold tot; omega, hq, hm.h⟩
  have hT : x.l1.n + x.l2.n + x.l3.n ≤ 1000000 := by have := hF.t; have := HTOT.out.1; omega
  have hqn : x.q.n ≤ 1000000 := by have := hF.n; omega
  have hln : ∀ k, (nth3 x k).n ≤ 1000000 := by
    intro k
    unfold nth3
    split
    · omega
    · split <;> omega
  have KT := fun W => Lib.hid (total_any H x W (by omega))
  have KH := fun W => Lib.hid (head_chk H x hid W)
  have KSec : Hid (∀ W, Calls Tryz.prog 47 #[.pointer (some ⟨w.heap.size, 0, none⟩)] W fun e w' => e = .returned (.agg #[.pointer (some ⟨w.heap.size, 11, none⟩), .pointer (some ⟨w.heap.size, 12, none⟩), .pointer (some ⟨w.heap.size, 13, none⟩)]) ∧ Hid (Below W.heap.size W w')) := fun W => sections_any w.heap.size W
  clear hm hF hq e1 e2 e3 hid hb0
  go_enter Tryz.func16, Tryz.ntmps16
  go_wp2_with fail
  generalize w.alloc (.cells #[.int .u16 H.id, .bool H.rs, .int .i64 H.op, .bool H.aa, .bool H.tc, .bool H.rd, .bool H.ra, .bool H.ad, .bool H.cd, .int .i64 H.rc, .slice x.q.a x.q.n x.q.c, .slice x.l1.a x.l1.n x.l1.c, .slice x.l2.a x.l2.n x.l2.c, .slice x.l3.a x.l3.n x.l3.c] 26) = Z at *
  obtain ⟨b, hbb⟩ : ∃ b, b = w.heap.size := ⟨_, rfl⟩
  rw [← hbb] at HBX KSec ⊢
  have HBB : Hid (b = w.heap.size) := hbb
  clear hbb
  refine (KH Z).out.mono ?_
  rintro e w1 ⟨sh, rfl, H1⟩
  have HB1 : Hid (Below w.heap.size w w1 ∧ w1.heap[b]? = some (.cells #[.int .u16 H.id, .bool H.rs, .int .i64 H.op, .bool H.aa, .bool H.tc, .bool H.rd, .bool H.ra, .bool H.ad, .bool H.cd, .int .i64 H.rc, .slice x.q.a x.q.n x.q.c, .slice x.l1.a x.l1.n x.l1.c, .slice x.l2.a x.l2.n x.l2.c, .slice x.l3.a x.l3.n x.l3.c] 26)) := ⟨HBel.out.trans (H1.out.mono HBel.out.size), (H1.out.block b (box_lt HBX.out)).trans HBX.out⟩
  clear KH H1
  by_cases hH : hdOk H
  case neg =>
    have HC : Hid (chkM m = 2) := (show _ = _ by unfold chkM; rw [HTOT.out.2.2, if_neg hH])
    rw [if_neg hH]
    go_wp2
    go_ret
    exact ⟨by rw [HC.out]; rfl, HB1.out.1⟩
  rw [if_pos hH]
  have HHO : Hid (hdOk H) := hH
  clear hH
  have c10 := box_cell HB1.out.2 10 _ rfl
  have hl1 := box_lt HB1.out.2
  by_cases hq16 : 16 < x.q.n
  · have hq' : (16 : Int) < (x.q.n : Int) := by omega
    have HC : Hid (chkM m = 3) := (show _ = _ by unfold chkM; rw [HTOT.out.2.2, if_pos HHO.out, if_pos (by have := HTOT.out.2.1; omega)])
    go_wp2
    go_ret
    exact ⟨by rw [HC.out]; rfl, HB1.out.1⟩
  have hq' : (x.q.n : Int) ≤ 16 := by omega
  obtain ⟨z0, z1, z2, z3, z4, z5, z6, z7, z8, z9, z10, z11, z12, z13⟩ := mbox_cells HB1.out.2
  go_wp2_with fail
  refine (KT w1).out.mono ?_
  rintro e w2 ⟨rfl, H2⟩
  have HB2 : Hid (Below w.heap.size w w2 ∧ w2.heap[b]? = some (.cells #[.int .u16 H.id, .bool H.rs, .int .i64 H.op, .bool H.aa, .bool H.tc, .bool H.rd, .bool H.ra, .bool H.ad, .bool H.cd, .int .i64 H.rc, .slice x.q.a x.q.n x.q.c, .slice x.l1.a x.l1.n x.l1.c, .slice x.l2.a x.l2.n x.l2.c, .slice x.l3.a x.l3.n x.l3.c] 26)) := ⟨HB1.out.1.trans (H2.out.mono HB1.out.1.size), (H2.out.block b hl1).trans HB1.out.2⟩
  clear KT H2 z0 z1 z2 z3 z4 z5 z6 z7 z8 z9 z10 z11 z12 z13 c10
  have c10 := box_cell HB2.out.2 10 _ rfl
  have hl2 := box_lt HB2.out.2
  by_cases ht512 : 512 < x.l1.n + x.l2.n + x.l3.n
  · have ht' : (512 : Int) < ((x.l1.n + x.l2.n + x.l3.n : Nat) : Int) := by omega
    have HC : Hid (chkM m = 3) := (show _ = _ by unfold chkM; rw [HTOT.out.2.2, if_pos HHO.out, if_pos (by have := HTOT.out.1; omega)])
    generalize x.l1.n + x.l2.n + x.l3.n = TT at *
    go_wp2
    go_ret
    exact ⟨by rw [HC.out]; rfl, HB2.out.1⟩
  have ht' : ((x.l1.n + x.l2.n + x.l3.n : Nat) : Int) ≤ 512 := by omega
  have HC : Hid (chkM m = if qnsE m.qs = 0 then recsE (m.l1 ++ (m.l2 ++ m.l3)) else qnsE m.qs) := (show _ = _ by unfold chkM; rw [HTOT.out.2.2, if_pos HHO.out, if_neg (by have := HTOT.out.1; have := HTOT.out.2.1; omega)])
  generalize x.l1.n + x.l2.n + x.l3.n = TT at *
  go_wp2_with fail
  go_loopw [34] (fun z wr => ∃ k : Nat, k ≤ x.q.n ∧ z = .int .i64 k ∧ Hid ((∀ i (hi : i < m.qs.length), i < k → nck m.qs[i].nm = 0) ∧ Below w2.heap.size w2 wr)) (fun z _ => x.q.n - (intOf z).toNat)
  case atStart => exact ⟨0, Nat.zero_le _, rfl, fun i _ h => absurd h (by omega), Below.refl _ _⟩
  case round =>
    obtain ⟨k, hk, rfl, HK⟩ := hrel
    have HMw : Hid (MRd wr H x m) := HM.out.1.below (HB2.out.1.trans (HK.out.2.mono HB2.out.1.size))
    by_cases hlt : k < x.q.n
    · have hlt' : (k : Int) < (x.q.n : Int) := by omega
      have hks : k < m.qs.length := by rw [HTOT.out.2.1]; exact hlt
      obtain ⟨qb, qo, hqa, hqb, y, y0, y1, y2, hy⟩ := (HMw.out.q).at k hks
      have KC : Hid (∀ W, Below wr.heap.size wr W → Calls Tryz.prog 46 #[.slice y.s.a y.s.n y.s.c] W fun e w' => e = .returned (.int .i64 (nck m.qs[k].nm)) ∧ w' = W) := by
        intro W hW
        have hA := (hy.rd.below hW).arg
        have := HM.out.2.q _ (List.getElem_mem hks)
        exact pcheckA_wide y.s.a y.s.n y.s.c m.qs[k].nm W hA.rd hA.len (fun ho => by have := labs_nsz ho; omega) hA.n63 hA.z63
      have HN : Hid (nck m.qs[k].nm = 0 → ∀ i (hi : i < m.qs.length), i < k + 1 → nck m.qs[i].nm = 0) := by
        intro h0 i hi hik
        by_cases e : i = k
        · subst e; exact h0
        · exact HK.out.1 i hi (by omega)
      have HEr : Hid (nck m.qs[k].nm ≠ 0 → chkM m = nck m.qs[k].nm) := by
        intro h0
        have e := qnsE_at m.qs k hks HK.out.1 h0
        rw [HC.out, if_neg (by rw [e]; exact h0), e]
      generalize x.q.a = qa at *
      subst hqa
      clear hy
      generalize nck m.qs[k].nm = q at *
      have hba : Below wr.heap.size wr (wr.alloc (.cells #[.slice y.s.a y.s.n y.s.c, .int .u16 (y.ty : Int), .int .u16 (y.cl : Int)] 64)) := newq_below _ _
      have KC2 := Lib.hid (KC.out _ hba)
      have HKB : Hid (Below w2.heap.size w2 (wr.alloc (.cells #[.slice y.s.a y.s.n y.s.c, .int .u16 (y.ty : Int), .int .u16 (y.cl : Int)] 64))) := HK.out.2.trans (hba.mono HK.out.2.size)
      clear hba KC
      by_cases h0 : q = 0
      · subst h0
        go_wp2_with fail
        refine KC2.out.mono ?_
        rintro e w3 ⟨rfl, hw3⟩
        subst w3
        go_wp2
        exact ⟨⟨k + 1, by omega, by go_num, HN.out trivial, HKB.out⟩, by simp [intOf]; omega⟩
      · have h0' : (q != 0) = true := bne_iff_ne.2 h0
        go_wp2_with fail
        refine KC2.out.mono ?_
        rintro e w3 ⟨rfl, hw3⟩
        subst w3
        go_wp2
        go_ret
        exact ⟨by rw [HEr.out h0]; rfl, HB2.out.1.trans (HKB.out.mono HB2.out.1.size)⟩
    · have hkk : k = x.q.n := by omega
      subst k
      have HC2 : Hid (chkM m = recsE (m.l1 ++ (m.l2 ++ m.l3))) := by
        show _ = _
        rw [HC.out, if_pos (qnsE_none m.qs (fun i hi => HK.out.1 i hi (by have := HTOT.out.2.1; omega)))]
      have HBr : Hid (Below w.heap.size w wr ∧ wr.heap[b]? = some (.cells #[.int .u16 H.id, .bool H.rs, .int .i64 H.op, .bool H.aa, .bool H.tc, .bool H.rd, .bool H.ra, .bool H.ad, .bool H.cd, .int .i64 H.rc, .slice x.q.a x.q.n x.q.c, .slice x.l1.a x.l1.n x.l1.c, .slice x.l2.a x.l2.n x.l2.c, .slice x.l3.a x.l3.n x.l3.c] 26)) := ⟨HB2.out.1.trans (HK.out.2.mono HB2.out.1.size), (HK.out.2.block b hl2).trans HB2.out.2⟩
      clear HK HMw
      go_wp2_with fail
      refine (KSec.out _).mono ?_
      rintro e w4 ⟨rfl, H4⟩
      have HB4 : Hid (Below w.heap.size w w4 ∧ w4.heap[b]? = some (.cells #[.int .u16 H.id, .bool H.rs, .int .i64 H.op, .bool H.aa, .bool H.tc, .bool H.rd, .bool H.ra, .bool H.ad, .bool H.cd, .int .i64 H.rc, .slice x.q.a x.q.n x.q.c, .slice x.l1.a x.l1.n x.l1.c, .slice x.l2.a x.l2.n x.l2.c, .slice x.l3.a x.l3.n x.l3.c] 26)) := ⟨HBr.out.1.trans (H4.out.mono HBr.out.1.size), (H4.out.block b (box_lt HBr.out.2)).trans HBr.out.2⟩
      clear H4 KSec
      obtain ⟨wz, hwz⟩ : ∃ z, z = wr := ⟨_, rfl⟩
      subst hwz
      go_wp2_with fail
      go_loopw [46] (fun z wr => ∃ j : Nat, j ≤ 3 ∧ z = .int .i64 j ∧ Hid ((∀ i, i < j → recsE (nthL m i) = 0) ∧ Below w4.heap.size w4 wr)) (fun z _ => 3 - (intOf z).toNat)
      case atStart => exact ⟨0, by omega, rfl, fun i h => absurd h (by omega), Below.refl _ _⟩
      case round =>
        obtain ⟨j, hj, rfl, HJ⟩ := hrel
        by_cases hlt3 : j < 3
        · have h3 : (j : Int) < 3 := by omega
          have hix := ixS b j hlt3
          have hl4 := box_lt HB4.out.2
          have HXw : Hid (wr.heap[b]? = some (.cells #[.int .u16 H.id, .bool H.rs, .int .i64 H.op, .bool H.aa, .bool H.tc, .bool H.rd, .bool H.ra, .bool H.ad, .bool H.cd, .int .i64 H.rc, .slice x.q.a x.q.n x.q.c, .slice x.l1.a x.l1.n x.l1.c, .slice x.l2.a x.l2.n x.l2.c, .slice x.l3.a x.l3.n x.l3.c] 26)) := (HJ.out.2.block b hl4).trans HB4.out.2
          have hc := mbox_list HXw.out j hlt3
          have hlw := box_lt HXw.out
          have hsn := hln j
          have HLL : Hid (∀ W, Below w4.heap.size w4 W → LRd W (nth3 x j) (nthL m j)) := fun W hW => ((HM.out.1.below (HB4.out.1.trans (hW.mono HB4.out.1.size))).nth j).1
          have HCR : Hid (∀ r ∈ nthL m j, r.ow.length ≤ 1000000 ∧ Bd r.d) := fun r hr => ⟨HM.out.2.o j r hr, HM.out.2.d j r hr⟩
          have HAT : Hid (recsE (nthL m j) ≠ 0 → chkM m = recsE (nthL m j)) := fun h => by rw [HC2.out]; exact all_at m j hlt3 HJ.out.1 h
          have HNX : Hid (recsE (nthL m j) = 0 → ∀ i, i < j + 1 → recsE (nthL m i) = 0) := by
            intro h0 i hi
            by_cases e : i = j
            · subst e; exact h0
            · exact HJ.out.1 i (by omega)
          have HMJ := Lib.hid HJ.out.2
          have HRLn : Hid ((nthL m j).length = (nth3 x j).n) := (HLL.out wr HMJ.out).len
          generalize nth3 x j = sl at *
          generalize nthL m j = rl at *
          obtain ⟨sa, sn, sc⟩ := sl
          simp only at hc hsn HRLn
          clear HJ HXw
          obtain ⟨wo, hwo⟩ : ∃ z, z = wr := ⟨_, rfl⟩
          subst hwo
          go_wp2_with fail
          go_loopw [53] (fun z wr => ∃ k : Nat, k ≤ sn ∧ z = .int .i64 k ∧ Hid ((∀ i (hi : i < rl.length), i < k → recE rl[i] = 0) ∧ Below w4.heap.size w4 wr)) (fun z _ => sn - (intOf z).toNat)
          case atStart => exact ⟨0, Nat.zero_le _, rfl, fun i _ h => absurd h (by omega), HMJ.out⟩
          case round =>
            obtain ⟨k, hk, rfl, HK⟩ := hrel
            by_cases hlt : k < sn
            · have hlt' : (k : Int) < (sn : Int) := by omega
              have hks : k < rl.length := by rw [HRLn.out]; exact hlt
              obtain ⟨rb, ro, hra, hrb, y, hcells, hy⟩ := ((HLL.out wr HK.out.2).rd).at k hks
              simp only at hra
              have y0 : wr.cell? ⟨rb, ro + k * 8, none⟩ = some (.slice y.o.a y.o.n y.o.c) := hcells 0 (by omega)
              have y1 : wr.cell? ⟨rb, ro + k * 8 + 1, none⟩ = some (.int .u16 (rl[k].t : Int)) := hcells 1 (by omega)
              have y2 : wr.cell? ⟨rb, ro + k * 8 + 2, none⟩ = some (.int .u16 (rl[k].cl : Int)) := hcells 2 (by omega)
              have y3 : wr.cell? ⟨rb, ro + k * 8 + 3, none⟩ = some (.int .u32 (rl[k].tt : Int)) := hcells 3 (by omega)
              have y4 : wr.cell? ⟨rb, ro + k * 8 + 4, none⟩ = some (.slice y.d.p1.a y.d.p1.n y.d.p1.c) := hcells 4 (by omega)
              have y5 : wr.cell? ⟨rb, ro + k * 8 + 5, none⟩ = some (.slice y.d.p2.a y.d.p2.n y.d.p2.c) := hcells 5 (by omega)
              have y6 : wr.cell? ⟨rb, ro + k * 8 + 6, none⟩ = some (.slice y.d.p3.a y.d.p3.n y.d.p3.c) := hcells 6 (by omega)
              have y7 : wr.cell? ⟨rb, ro + k * 8 + 7, none⟩ = some (.slice y.d.p4.a y.d.p4.n y.d.p4.c) := hcells 7 (by omega)
              have hba : Below wr.heap.size wr (wr.alloc (.cells #[.slice y.o.a y.o.n y.o.c, .int .u16 rl[k].t, .int .u16 rl[k].cl, .int .u32 rl[k].tt, .slice y.d.p1.a y.d.p1.n y.d.p1.c, .slice y.d.p2.a y.d.p2.n y.d.p2.c, .slice y.d.p3.a y.d.p3.n y.d.p3.c, .slice y.d.p4.a y.d.p4.n y.d.p4.c] 61)) := newq_below _ _
              have HKB : Hid (Below w4.heap.size w4 (wr.alloc (.cells #[.slice y.o.a y.o.n y.o.c, .int .u16 rl[k].t, .int .u16 rl[k].cl, .int .u32 rl[k].tt, .slice y.d.p1.a y.d.p1.n y.d.p1.c, .slice y.d.p2.a y.d.p2.n y.d.p2.c, .slice y.d.p3.a y.d.p3.n y.d.p3.c, .slice y.d.p4.a y.d.p4.n y.d.p4.c] 61))) := HK.out.2.trans (hba.mono HK.out.2.size)
              have KR := Lib.hid (checkrec_any y rl[k] _ (hy.below hba) (by have := hy.1.len; have := (HCR.out _ (List.getElem_mem hks)).1; omega) (HCR.out _ (List.getElem_mem hks)).2)
              have HN : Hid (recE rl[k] = 0 → ∀ i (hi : i < rl.length), i < k + 1 → recE rl[i] = 0) := by
                intro h0 i hi hik
                by_cases e : i = k
                · subst e; exact h0
                · exact HK.out.1 i hi (by omega)
              have HEr : Hid (recE rl[k] ≠ 0 → chkM m = recE rl[k]) := by
                intro h0
                have e := recsE_at rl k hks HK.out.1 h0
                rw [HAT.out (by rw [e]; exact h0), e]
              clear hy hcells hba
              generalize recE rl[k] = q at *
              generalize rl[k] = r at *
              subst hra
              by_cases h0 : q = 0
              · subst h0
                go_wp2_with fail
                refine KR.out.mono ?_
                rintro e w6 ⟨rfl, H6⟩
                go_wp2
                exact ⟨⟨k + 1, by omega, by go_num, HN.out trivial, HKB.out.trans (H6.out.mono HKB.out.size)⟩, by simp [intOf]; omega⟩
              · have h0' : (q != 0) = true := bne_iff_ne.2 h0
                go_wp2_with fail
                refine KR.out.mono ?_
                rintro e w6 ⟨rfl, H6⟩
                go_wp2
                go_ret
                have hb6 := HKB.out.trans (H6.out.mono HKB.out.size)
                exact ⟨by rw [HEr.out h0]; rfl, HB4.out.1.trans (hb6.mono HB4.out.1.size)⟩
            · have hkk : k = sn := by omega
              subst k
              have HAll : Hid (recsE rl = 0) := recsE_none rl (fun i hi => HK.out.1 i hi (by have := HRLn.out; omega))
              go_wp2
              exact ⟨⟨j + 1, by omega, by go_num, HNX.out HAll.out, HK.out.2⟩, by simp [intOf]; omega⟩
        · have hjj : j = 3 := by omega
          subst j
          have HC3 : Hid (chkM m = 0) := by show _ = _; rw [HC2.out]; exact all_none m HJ.out.1
          go_wp2
          go_ret
          exact ⟨by rw [HC3.out]; rfl, HB4.out.1.trans (HJ.out.2.mono HB4.out.1.size)⟩
end Go.Proofs.YteplffhfeoephaaGreat
namespace Go.Proofs.YteplffhfeoephaaGreat
open Go.ChangeShapes Go.WideShapes Go.ChangeAt Go.RowKit Go.Maps
set_option linter.unusedVariables false
set_option linter.unusedSimpArgs false
/-- How many records are left to be taken. -/
def remN (x : MA) (k : Nat) : Nat → Nat
  | 0 => k
  | j + 1 => remN x k j - min (remN x k j) (nth3 x j).n
/-- The lists, the first j of them cut. -/
def cutJ (x : MA) (k j : Nat) : MA := ⟨x.q, if 0 < j then ⟨x.l1.a, min k x.l1.n, x.l1.c⟩ else x.l1, if 1 < j then ⟨x.l2.a, min (remN x k 1) x.l2.n, x.l2.c⟩ else x.l2, if 2 < j then ⟨x.l3.a, min (remN x k 2) x.l3.n, x.l3.c⟩ else x.l3⟩
theorem remN_le (x : MA) (k : Nat) : ∀ j, remN x k j ≤ k
  | 0 => Nat.le_refl _
  | j + 1 => by have := remN_le x k j; simp only [remN]; omega
theorem cutJ_nth (x : MA) (k j : Nat) (hj : j < 3) : nth3 (cutJ x k j) j = nth3 x j := by
  have : j = 0 ∨ j = 1 ∨ j = 2 := by omega
  rcases this with rfl | rfl | rfl <;> rfl
theorem cutJ_step (H : Hd) (x : MA) (k j : Nat) (hj : j < 3) : (#[.int .u16 H.id, .bool H.rs, .int .i64 H.op, .bool H.aa, .bool H.tc, .bool H.rd, .bool H.ra, .bool H.ad, .bool H.cd, .int .i64 H.rc, .slice (cutJ x k j).q.a (cutJ x k j).q.n (cutJ x k j).q.c, .slice (cutJ x k j).l1.a (cutJ x k j).l1.n (cutJ x k j).l1.c, .slice (cutJ x k j).l2.a (cutJ x k j).l2.n (cutJ x k j).l2.c, .slice (cutJ x k j).l3.a (cutJ x k j).l3.n (cutJ x k j).l3.c] : Array Value).setIfInBounds (11 + j) (.slice (nth3 x j).a (min (remN x k j) (nth3 x j).n) (nth3 x j).c) = #[.int .u16 H.id, .bool H.rs, .int .i64 H.op, .bool H.aa, .bool H.tc, .bool H.rd, .bool H.ra, .bool H.ad, .bool H.cd, .int .i64 H.rc, .slice (cutJ x k (j + 1)).q.a (cutJ x k (j + 1)).q.n (cutJ x k (j + 1)).q.c, .slice (cutJ x k (j + 1)).l1.a (cutJ x k (j + 1)).l1.n (cutJ x k (j + 1)).l1.c, .slice (cutJ x k (j + 1)).l2.a (cutJ x k (j + 1)).l2.n (cutJ x k (j + 1)).l2.c, .slice (cutJ x k (j + 1)).l3.a (cutJ x k (j + 1)).l3.n (cutJ x k (j + 1)).l3.c] := by
  have : j = 0 ∨ j = 1 ∨ j = 2 := by omega
  rcases this with rfl | rfl | rfl <;> rfl
set_option maxRecDepth 100000 in
set_option maxHeartbeats 2000000 in
theorem first_any (H : Hd) (x : MA) (k : Nat) (w : World) (hk : k ≤ 1000000) (hc : ∀ j, (nth3 x j).n ≤ (nth3 x j).c ∧ (nth3 x j).n ≤ 1000000 ∧ (nth3 x j).c ≤ 9223372036854775807) :
    Calls Tryz.prog 43 #[.agg #[.int .u16 H.id, .bool H.rs, .int .i64 H.op, .bool H.aa, .bool H.tc, .bool H.rd, .bool H.ra, .bool H.ad, .bool H.cd, .int .i64 H.rc, .slice x.q.a x.q.n x.q.c, .slice x.l1.a x.l1.n x.l1.c, .slice x.l2.a x.l2.n x.l2.c, .slice x.l3.a x.l3.n x.l3.c], .int .i64 k] w fun e w' => e = .returned (.agg #[.int .u16 H.id, .bool H.rs, .int .i64 H.op, .bool H.aa, .bool H.tc, .bool H.rd, .bool H.ra, .bool H.ad, .bool H.cd, .int .i64 H.rc, .slice (cutJ x k 3).q.a (cutJ x k 3).q.n (cutJ x k 3).q.c, .slice (cutJ x k 3).l1.a (cutJ x k 3).l1.n (cutJ x k 3).l1.c, .slice (cutJ x k 3).l2.a (cutJ x k 3).l2.n (cutJ x k 3).l2.c, .slice (cutJ x k 3).l3.a (cutJ x k 3).l3.n (cutJ x k 3).l3.c]) ∧ Hid (Below w.heap.size w w') := by
  obtain ⟨f1, f2⟩ : Below w.heap.size w ((w.alloc (.cells #[.int .u16 H.id, .bool H.rs, .int .i64 H.op, .bool H.aa, .bool H.tc, .bool H.rd, .bool H.ra, .bool H.ad, .bool H.cd, .int .i64 H.rc, .slice x.q.a x.q.n x.q.c, .slice x.l1.a x.l1.n x.l1.c, .slice x.l2.a x.l2.n x.l2.c, .slice x.l3.a x.l3.n x.l3.c] 26)).alloc (.cells zeroM 26)) ∧ ((w.alloc (.cells #[.int .u16 H.id, .bool H.rs, .int .i64 H.op, .bool H.aa, .bool H.tc, .bool H.rd, .bool H.ra, .bool H.ad, .bool H.cd, .int .i64 H.rc, .slice x.q.a x.q.n x.q.c, .slice x.l1.a x.l1.n x.l1.c, .slice x.l2.a x.l2.n x.l2.c, .slice x.l3.a x.l3.n x.l3.c] 26)).alloc (.cells zeroM 26)).heap[w.heap.size]? = some (.cells #[.int .u16 H.id, .bool H.rs, .int .i64 H.op, .bool H.aa, .bool H.tc, .bool H.rd, .bool H.ra, .bool H.ad, .bool H.cd, .int .i64 H.rc, .slice x.q.a x.q.n x.q.c, .slice x.l1.a x.l1.n x.l1.c, .slice x.l2.a x.l2.n x.l2.c, .slice x.l3.a x.l3.n x.l3.c] 26) ∧ ((w.alloc (.cells #[.int .u16 H.id, .bool H.rs, .int .i64 H.op, .bool H.aa, .bool H.tc, .bool H.rd, .bool H.ra, .bool H.ad, .bool H.cd, .int .i64 H.rc, .slice x.q.a x.q.n x.q.c, .slice x.l1.a x.l1.n x.l1.c, .slice x.l2.a x.l2.n x.l2.c, .slice x.l3.a x.l3.n x.l3.c] 26)).alloc (.cells zeroM 26)).heap[w.heap.size + 1]? = some (.cells zeroM 26) := by
    have n1 := heap_alloc_new w (.cells #[.int .u16 H.id, .bool H.rs, .int .i64 H.op, .bool H.aa, .bool H.tc, .bool H.rd, .bool H.ra, .bool H.ad, .bool H.cd, .int .i64 H.rc, .slice x.q.a x.q.n x.q.c, .slice x.l1.a x.l1.n x.l1.c, .slice x.l2.a x.l2.n x.l2.c, .slice x.l3.a x.l3.n x.l3.c] 26)
    have n2 := heap_alloc_new (w.alloc (.cells #[.int .u16 H.id, .bool H.rs, .int .i64 H.op, .bool H.aa, .bool H.tc, .bool H.rd, .bool H.ra, .bool H.ad, .bool H.cd, .int .i64 H.rc, .slice x.q.a x.q.n x.q.c, .slice x.l1.a x.l1.n x.l1.c, .slice x.l2.a x.l2.n x.l2.c, .slice x.l3.a x.l3.n x.l3.c] 26)) (.cells zeroM 26)
    have s1 : (w.alloc (.cells #[.int .u16 H.id, .bool H.rs, .int .i64 H.op, .bool H.aa, .bool H.tc, .bool H.rd, .bool H.ra, .bool H.ad, .bool H.cd, .int .i64 H.rc, .slice x.q.a x.q.n x.q.c, .slice x.l1.a x.l1.n x.l1.c, .slice x.l2.a x.l2.n x.l2.c, .slice x.l3.a x.l3.n x.l3.c] 26)).heap.size = w.heap.size + 1 := by simp
    rw [s1] at n2
    exact ⟨((Below.refl _ w).alloc (Nat.le_refl _) _).alloc (by omega) _, (Below.heap_alloc _ _ _ (by omega)).trans n1, n2⟩
  have HF : Hid (Below w.heap.size w ((w.alloc (.cells #[.int .u16 H.id, .bool H.rs, .int .i64 H.op, .bool H.aa, .bool H.tc, .bool H.rd, .bool H.ra, .bool H.ad, .bool H.cd, .int .i64 H.rc, .slice x.q.a x.q.n x.q.c, .slice x.l1.a x.l1.n x.l1.c, .slice x.l2.a x.l2.n x.l2.c, .slice x.l3.a x.l3.n x.l3.c] 26)).alloc (.cells zeroM 26)) ∧ ((w.alloc (.cells #[.int .u16 H.id, .bool H.rs, .int .i64 H.op, .bool H.aa, .bool H.tc, .bool H.rd, .bool H.ra, .bool H.ad, .bool H.cd, .int .i64 H.rc, .slice x.q.a x.q.n x.q.c, .slice x.l1.a x.l1.n x.l1.c, .slice x.l2.a x.l2.n x.l2.c, .slice x.l3.a x.l3.n x.l3.c] 26)).alloc (.cells zeroM 26)).heap[w.heap.size]? = some (.cells #[.int .u16 H.id, .bool H.rs, .int .i64 H.op, .bool H.aa, .bool H.tc, .bool H.rd, .bool H.ra, .bool H.ad, .bool H.cd, .int .i64 H.rc, .slice x.q.a x.q.n x.q.c, .slice x.l1.a x.l1.n x.l1.c, .slice x.l2.a x.l2.n x.l2.c, .slice x.l3.a x.l3.n x.l3.c] 26) ∧ ((w.alloc (.cells #[.int .u16 H.id, .bool H.rs, .int .i64 H.op, .bool H.aa, .bool H.tc, .bool H.rd, .bool H.ra, .bool H.ad, .bool H.cd, .int .i64 H.rc, .slice x.q.a x.q.n x.q.c, .slice x.l1.a x.l1.n x.l1.c, .slice x.l2.a x.l2.n x.l2.c, .slice x.l3.a x.l3.n x.l3.c] 26)).alloc (.cells zeroM 26)).heap[w.heap.size + 1]? = some (.cells zeroM 26)) := ⟨f1, f2⟩
  clear f1 f2
  unfold zeroM at HF
  have KSec : Hid (∀ W, Calls Tryz.prog 47 #[.pointer (some ⟨w.heap.size, 0, none⟩)] W fun e w' => e = .returned (.agg #[.pointer (some ⟨w.heap.size, 11, none⟩), .pointer (some ⟨w.heap.size, 12, none⟩), .pointer (some ⟨w.heap.size, 13, none⟩)]) ∧ Hid (Below W.heap.size W w')) := fun W => sections_any w.heap.size W
  go_enter Tryz.func43, Tryz.ntmps43
  go_wp2_with fail
  refine (KSec.out _).mono ?_
  rintro e w1 ⟨rfl, H1⟩
  generalize (w.alloc (.cells #[.int .u16 H.id, .bool H.rs, .int .i64 H.op, .bool H.aa, .bool H.tc, .bool H.rd, .bool H.ra, .bool H.ad, .bool H.cd, .int .i64 H.rc, .slice x.q.a x.q.n x.q.c, .slice x.l1.a x.l1.n x.l1.c, .slice x.l2.a x.l2.n x.l2.c, .slice x.l3.a x.l3.n x.l3.c] 26)).alloc (.cells #[.int .u16 0, .bool false, .int .i64 0, .bool false, .bool false, .bool false, .bool false, .bool false, .bool false, .int .i64 0, .slice none 0 0, .slice none 0 0, .slice none 0 0, .slice none 0 0] 26) = Z at *
  obtain ⟨b, hbb⟩ : ∃ b, b = w.heap.size := ⟨_, rfl⟩
  have HB : Hid (w1.heap[b]? = some (.cells #[.int .u16 H.id, .bool H.rs, .int .i64 H.op, .bool H.aa, .bool H.tc, .bool H.rd, .bool H.ra, .bool H.ad, .bool H.cd, .int .i64 H.rc, .slice (cutJ x k 0).q.a (cutJ x k 0).q.n (cutJ x k 0).q.c, .slice (cutJ x k 0).l1.a (cutJ x k 0).l1.n (cutJ x k 0).l1.c, .slice (cutJ x k 0).l2.a (cutJ x k 0).l2.n (cutJ x k 0).l2.c, .slice (cutJ x k 0).l3.a (cutJ x k 0).l3.n (cutJ x k 0).l3.c] 26) ∧ w1.heap[b + 1]? = some (.cells zeroM 26) ∧ Below w.heap.size w w1) := by
    rw [hbb]
    exact ⟨(H1.out.block _ (box_lt HF.out.2.1)).trans HF.out.2.1, (H1.out.block _ (box_lt HF.out.2.2)).trans HF.out.2.2, HF.out.1.trans (H1.out.mono HF.out.1.size)⟩
  have HBW : Hid (b = w.heap.size) := hbb
  rw [← hbb]
  clear HF H1 KSec hbb
  go_wp2_with fail
  go_loopw [1, 9] (fun y z wr => ∃ j : Nat, j ≤ 3 ∧ y = .int .i64 (remN x k j : Nat) ∧ z = .int .i64 j ∧ Hid (wr.heap[b]? = some (.cells #[.int .u16 H.id, .bool H.rs, .int .i64 H.op, .bool H.aa, .bool H.tc, .bool H.rd, .bool H.ra, .bool H.ad, .bool H.cd, .int .i64 H.rc, .slice (cutJ x k j).q.a (cutJ x k j).q.n (cutJ x k j).q.c, .slice (cutJ x k j).l1.a (cutJ x k j).l1.n (cutJ x k j).l1.c, .slice (cutJ x k j).l2.a (cutJ x k j).l2.n (cutJ x k j).l2.c, .slice (cutJ x k j).l3.a (cutJ x k j).l3.n (cutJ x k j).l3.c] 26) ∧ wr.heap[b + 1]? = some (.cells zeroM 26) ∧ Below w.heap.size w wr)) (fun _ z _ => 3 - (intOf z).toNat)
  case atStart => exact ⟨0, by omega, rfl, rfl, HB.out⟩
  case round =>
    obtain ⟨j, hj, rfl, rfl, HK⟩ := hrel
    by_cases hlt3 : j < 3
    · have h3 : (j : Int) < 3 := by omega
      have hix := ixS b j hlt3
      have hcl := mbox_list (x := cutJ x k j) HK.out.1 j hlt3
      rw [cutJ_nth x k j hlt3] at hcl
      have hlb := box_lt HK.out.1
      have hfz : wr.frozen? ⟨b, 11 + j, none⟩ = false := box_frozen HK.out.1 _
      have HST := Lib.hid (cutJ_step H x k j hlt3)
      have HRM : Hid (remN x k (j + 1) = remN x k j - min (remN x k j) (nth3 x j).n) := rfl
      have hrm := remN_le x k j
      obtain ⟨hc1, hc2, hc3⟩ := hc j
      generalize nth3 x j = s at *
      generalize hR : remN x k j = R at *
      have HEND : Hid (∀ M : Nat, M = min R s.n → (wr.setCell ⟨b, 11 + j, none⟩ (.slice s.a M s.c)).heap[b]? = some (.cells #[.int .u16 H.id, .bool H.rs, .int .i64 H.op, .bool H.aa, .bool H.tc, .bool H.rd, .bool H.ra, .bool H.ad, .bool H.cd, .int .i64 H.rc, .slice (cutJ x k (j + 1)).q.a (cutJ x k (j + 1)).q.n (cutJ x k (j + 1)).q.c, .slice (cutJ x k (j + 1)).l1.a (cutJ x k (j + 1)).l1.n (cutJ x k (j + 1)).l1.c, .slice (cutJ x k (j + 1)).l2.a (cutJ x k (j + 1)).l2.n (cutJ x k (j + 1)).l2.c, .slice (cutJ x k (j + 1)).l3.a (cutJ x k (j + 1)).l3.n (cutJ x k (j + 1)).l3.c] 26) ∧ (wr.setCell ⟨b, 11 + j, none⟩ (.slice s.a M s.c)).heap[b + 1]? = some (.cells zeroM 26) ∧ Below w.heap.size w (wr.setCell ⟨b, 11 + j, none⟩ (.slice s.a M s.c))) := by
        intro M hM
        have hgr := grown_set wr b (11 + j) (.slice s.a M s.c)
        refine ⟨?_, (hgr.block (b + 1) (box_lt HK.out.2.1) (by simp)).trans HK.out.2.1, HK.out.2.2.setCell (by have := HBW.out; simp only; omega) _⟩
        rw [← HST.out, hM]
        exact box_set HK.out.1 _ _
      clear HST
      have hmx : (min R s.n : Nat) ≤ s.n := by omega
      go_wp2
      refine ⟨⟨j + 1, by omega, ?_, by go_num, HEND.out _ ?_⟩, by simp [intOf]; omega⟩
      · rw [HRM.out]
        congr 1
        split <;> omega
      · split <;> omega
    · have hjj : j = 3 := by omega
      subst j
      obtain ⟨z0, z1, z2, z3, z4, z5, z6, z7, z8, z9, z10, z11, z12, z13⟩ := mbox_cells HK.out.1
      have hl0 := box_lt HK.out.1
      have hl1 := box_lt HK.out.2.1
      have HK2 := Lib.hid HK.out.2.1
      unfold zeroM at HK2
      have HBE := Lib.hid HK.out.2.2
      generalize hX : cutJ x k 3 = X at *
      have HXX := Lib.hid hX
      clear HK hX
      have f0 : wr.frozen? ⟨b + 1, 0, none⟩ = false := box_frozen HK2.out _
      have e0 := box_cell HK2.out 0 _ rfl
      have f1 : wr.frozen? ⟨b + 1, 1, none⟩ = false := box_frozen HK2.out _
      have e1 := box_cell HK2.out 1 _ rfl
      have f2 : wr.frozen? ⟨b + 1, 2, none⟩ = false := box_frozen HK2.out _
      have e2 := box_cell HK2.out 2 _ rfl
      have f3 : wr.frozen? ⟨b + 1, 3, none⟩ = false := box_frozen HK2.out _
      have e3 := box_cell HK2.out 3 _ rfl
      have f4 : wr.frozen? ⟨b + 1, 4, none⟩ = false := box_frozen HK2.out _
      have e4 := box_cell HK2.out 4 _ rfl
      have f5 : wr.frozen? ⟨b + 1, 5, none⟩ = false := box_frozen HK2.out _
      have e5 := box_cell HK2.out 5 _ rfl
      have f6 : wr.frozen? ⟨b + 1, 6, none⟩ = false := box_frozen HK2.out _
      have e6 := box_cell HK2.out 6 _ rfl
      have f7 : wr.frozen? ⟨b + 1, 7, none⟩ = false := box_frozen HK2.out _
      have e7 := box_cell HK2.out 7 _ rfl
      have f8 : wr.frozen? ⟨b + 1, 8, none⟩ = false := box_frozen HK2.out _
      have e8 := box_cell HK2.out 8 _ rfl
      have f9 : wr.frozen? ⟨b + 1, 9, none⟩ = false := box_frozen HK2.out _
      have e9 := box_cell HK2.out 9 _ rfl
      have f10 : wr.frozen? ⟨b + 1, 10, none⟩ = false := box_frozen HK2.out _
      have e10 := box_cell HK2.out 10 _ rfl
      have f11 : wr.frozen? ⟨b + 1, 11, none⟩ = false := box_frozen HK2.out _
      have e11 := box_cell HK2.out 11 _ rfl
      have f12 : wr.frozen? ⟨b + 1, 12, none⟩ = false := box_frozen HK2.out _
      have e12 := box_cell HK2.out 12 _ rfl
      have f13 : wr.frozen? ⟨b + 1, 13, none⟩ = false := box_frozen HK2.out _
      have e13 := box_cell HK2.out 13 _ rfl
      go_wp2_with fail
      have HG9 := Lib.hid (put14 HK2.out (.int .u16 H.id) (.bool H.rs) (.int .i64 H.op) (.bool H.aa) (.bool H.tc) (.bool H.rd) (.bool H.ra) (.bool H.ad) (.bool H.cd) (.int .i64 H.rc) (.slice X.q.a X.q.n X.q.c) (.slice X.l1.a X.l1.n X.l1.c) (.slice X.l2.a X.l2.n X.l2.c) (.slice X.l3.a X.l3.n X.l3.c))
      have HB9 := Lib.hid (put14_below wr (b + 1) (.int .u16 H.id) (.bool H.rs) (.int .i64 H.op) (.bool H.aa) (.bool H.tc) (.bool H.rd) (.bool H.ra) (.bool H.ad) (.bool H.cd) (.int .i64 H.rc) (.slice X.q.a X.q.n X.q.c) (.slice X.l1.a X.l1.n X.l1.c) (.slice X.l2.a X.l2.n X.l2.c) (.slice X.l3.a X.l3.n X.l3.c))
      generalize ((((((((((((((wr.setCell ⟨b + 1, 0, none⟩ (.int .u16 H.id)).setCell ⟨b + 1, 1, none⟩ (.bool H.rs)).setCell ⟨b + 1, 2, none⟩ (.int .i64 H.op)).setCell ⟨b + 1, 3, none⟩ (.bool H.aa)).setCell ⟨b + 1, 4, none⟩ (.bool H.tc)).setCell ⟨b + 1, 5, none⟩ (.bool H.rd)).setCell ⟨b + 1, 6, none⟩ (.bool H.ra)).setCell ⟨b + 1, 7, none⟩ (.bool H.ad)).setCell ⟨b + 1, 8, none⟩ (.bool H.cd)).setCell ⟨b + 1, 9, none⟩ (.int .i64 H.rc)).setCell ⟨b + 1, 10, none⟩ (.slice X.q.a X.q.n X.q.c)).setCell ⟨b + 1, 11, none⟩ (.slice X.l1.a X.l1.n X.l1.c)).setCell ⟨b + 1, 12, none⟩ (.slice X.l2.a X.l2.n X.l2.c)).setCell ⟨b + 1, 13, none⟩ (.slice X.l3.a X.l3.n X.l3.c)) = w9 at *
      have y0 : w9.cell? ⟨b + 1, 0, none⟩ = some (.int .u16 H.id) := box_cell HG9.out 0 _ rfl
      have y1 : w9.cell? ⟨b + 1, 1, none⟩ = some (.bool H.rs) := box_cell HG9.out 1 _ rfl
      have y2 : w9.cell? ⟨b + 1, 2, none⟩ = some (.int .i64 H.op) := box_cell HG9.out 2 _ rfl
      have y3 : w9.cell? ⟨b + 1, 3, none⟩ = some (.bool H.aa) := box_cell HG9.out 3 _ rfl
      have y4 : w9.cell? ⟨b + 1, 4, none⟩ = some (.bool H.tc) := box_cell HG9.out 4 _ rfl
      have y5 : w9.cell? ⟨b + 1, 5, none⟩ = some (.bool H.rd) := box_cell HG9.out 5 _ rfl
      have y6 : w9.cell? ⟨b + 1, 6, none⟩ = some (.bool H.ra) := box_cell HG9.out 6 _ rfl
      have y7 : w9.cell? ⟨b + 1, 7, none⟩ = some (.bool H.ad) := box_cell HG9.out 7 _ rfl
      have y8 : w9.cell? ⟨b + 1, 8, none⟩ = some (.bool H.cd) := box_cell HG9.out 8 _ rfl
      have y9 : w9.cell? ⟨b + 1, 9, none⟩ = some (.int .i64 H.rc) := box_cell HG9.out 9 _ rfl
      have y10 : w9.cell? ⟨b + 1, 10, none⟩ = some (.slice X.q.a X.q.n X.q.c) := box_cell HG9.out 10 _ rfl
      have y11 : w9.cell? ⟨b + 1, 11, none⟩ = some (.slice X.l1.a X.l1.n X.l1.c) := box_cell HG9.out 11 _ rfl
      have y12 : w9.cell? ⟨b + 1, 12, none⟩ = some (.slice X.l2.a X.l2.n X.l2.c) := box_cell HG9.out 12 _ rfl
      have y13 : w9.cell? ⟨b + 1, 13, none⟩ = some (.slice X.l3.a X.l3.n X.l3.c) := box_cell HG9.out 13 _ rfl
      have lt9 := box_lt HG9.out
      refine bodyPost_ret (v := .agg #[.int .u16 H.id, .bool H.rs, .int .i64 H.op, .bool H.aa, .bool H.tc, .bool H.rd, .bool H.ra, .bool H.ad, .bool H.cd, .int .i64 H.rc, .slice X.q.a X.q.n X.q.c, .slice X.l1.a X.l1.n X.l1.c, .slice X.l2.a X.l2.n X.l2.c, .slice X.l3.a X.l3.n X.l3.c]) ?_ rfl ⟨by rw [HXX.out], HBE.out.trans (HB9.out.mono (by have := HBW.out; omega))⟩
      simp [results, Tryz.results43, go_sem, y0, y1, y2, y3, y4, y5, y6, y7, y8, y9, y10, y11, y12, y13, lt9]
end Go.Proofs.YteplffhfeoephaaGreat
