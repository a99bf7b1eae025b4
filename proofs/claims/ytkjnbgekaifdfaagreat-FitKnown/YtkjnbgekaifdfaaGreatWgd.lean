/- Texts laid together, in parts: Vh Mpc Sqk Mra Arg Sqi Sqq Sql0 Sql Sqr Sqb3 Sqm Sqn Mwa Vs Mpt Xf Mrk Mrm Mrq Mwk Mwb Mwc. -/
import Derived.Test.YtkjnbgekaifdfaaGreatWgc
import Derived.ChangeKeysEq
import Derived.Laws.StructEq
import Derived.RangeFuncNested
import Derived.RangeFuncBox
import Derived.WalkKit
import Derived.ProofKit
import Derived.OpenShut
import Derived.ShutString
import Derived.ChangeOld
import Derived.JoinedCond
import Derived.Deep.Strs
import Derived.SizedLaws
import Derived.RangeFuncBound
import Derived.RangeFuncCalls
import Derived.RangeFuncLeaves
import Derived.Shelf.Abstract
import Derived.Shelf.RegionOpen
import Derived.OwnWalkIn
import Derived.TacticsInMore
import Derived.LoopNIn
import Derived.LoopIn
import Derived.Sort.QuietIn
import Derived.Maps.OwnIn
import Derived.Deep.CutBlock
import Derived.RegionDies
import Derived.Deep.RegionHeld3
import Derived.Lib.Hide
import Derived.Deep.AppendLies
import Derived.Deep.RegionLaw
import Derived.Defers
import Derived.Recover
import Derived.Laws.CopyRow
namespace Go.Proofs.YtkjnbgekaifdfaaGreat
open Go.ChangeShapes Go.WideShapes Go.ChangeAt Go.RowKit
set_option linter.unusedVariables false
set_option linter.unusedSimpArgs false
theorem nv_b16s (I F C0 C1 C2 C3 : Nat) (h0 : I < 65536) (h1 : F < 65536) (h2 : C0 < 65536) (h3 : C1 < 65536) (h4 : C2 < 65536) (h5 : C3 < 65536) :
    nv (b16s (nsL I F C0 C1 C2 C3)) 0 = I ∧ nv (b16s (nsL I F C0 C1 C2 C3)) 1 = F ∧ nv (b16s (nsL I F C0 C1 C2 C3)) 2 = C0 ∧ nv (b16s (nsL I F C0 C1 C2 C3)) 3 = C1 ∧ nv (b16s (nsL I F C0 C1 C2 C3)) 4 = C2 ∧ nv (b16s (nsL I F C0 C1 C2 C3)) 5 = C3 := by
  simp only [nv, b16s, nsL, b16, val, List.flatMap_cons, List.flatMap_nil, List.cons_append, List.nil_append, List.append_nil, Nat.mul_zero, Nat.mul_one, Nat.reduceMul, List.drop_zero, List.drop_succ_cons, List.take_succ_cons, List.take_zero, List.foldl_cons, List.foldl_nil]
  omega
end Go.Proofs.YtkjnbgekaifdfaaGreat
namespace Go.Proofs.YtkjnbgekaifdfaaGreat
open Go.ChangeShapes Go.WideShapes Go.ChangeAt Go.RowKit
set_option linter.unusedVariables false
set_option linter.unusedSimpArgs false
/-- A message. -/
structure Mg where
  h : Hd
  qs : List Qn
  l1 : List Rec
  l2 : List Rec
  l3 : List Rec
def Rb (r : Rec) : Prop := r.t ≤ 65535 ∧ r.cl ≤ 65535 ∧ r.tt ≤ 4294967295
def Qb (q : Qn) : Prop := q.ty ≤ 65535 ∧ q.cl ≤ 65535
/-- Numbers that a message's fields may hold. -/
def Mb (m : Mg) : Prop := m.h.id < 65536 ∧ (∀ q ∈ m.qs, Qb q) ∧ (∀ r ∈ m.l1, Rb r) ∧ (∀ r ∈ m.l2, Rb r) ∧ (∀ r ∈ m.l3, Rb r)
def hdN (h : Hd) : Nat := packN h.op.toNat h.rc.toNat h.rs h.aa h.tc h.rd h.ra h.ad h.cd
def hdB (h : Hd) (c0 c1 c2 c3 : Nat) : List Int := b16s (nsL h.id (hdN h : Nat) c0 c1 c2 c3)
def pbody (m : Mg) : Pc := psq (pls (m.qs.map pqn)) (psq (pls (m.l1.map prec)) (psq (pls (m.l2.map prec)) (pls (m.l3.map prec))))
def pmsg (m : Mg) : Pc := psq (pby (hdB m.h m.qs.length m.l1.length m.l2.length m.l3.length)) (pbody m)
def hdOk (h : Hd) : Prop := 0 ≤ h.op ∧ h.op ≤ 15 ∧ 0 ≤ h.rc ∧ h.rc ≤ 15
instance (h : Hd) : Decidable (hdOk h) := inferInstanceAs (Decidable (_ ∧ _))
def recE (r : Rec) : Int := if nck r.ow = 0 then checkF r.t r.d else nck r.ow
def recsE : List Rec → Int
  | [] => 0
  | r :: l => if recE r = 0 then recsE l else recE r
def qnsE : List Qn → Int
  | [] => 0
  | q :: l => if nck q.nm = 0 then qnsE l else nck q.nm
def tot (m : Mg) : Nat := m.l1.length + m.l2.length + m.l3.length
def chkM (m : Mg) : Int := if hdOk m.h then (if 16 < m.qs.length ∨ 512 < tot m then 3 else (if qnsE m.qs = 0 then recsE (m.l1 ++ (m.l2 ++ m.l3)) else qnsE m.qs)) else 2
theorem recsE_app : ∀ a b : List Rec, recsE (a ++ b) = if recsE a = 0 then recsE b else recsE a
  | [], b => by simp [recsE]
  | r :: a, b => by
    have ih := recsE_app a b
    have e1 : ∀ l, recsE (r :: l) = if recE r = 0 then recsE l else recE r := fun l => rfl
    rw [List.cons_append, e1 (a ++ b)]
    by_cases h : recE r = 0
    · have e2 : recsE (r :: a) = recsE a := by rw [e1, if_pos h]
      rw [if_pos h, e2, ih]
    · have e2 : recsE (r :: a) = recE r := by rw [e1, if_neg h]
      rw [if_neg h, e2, if_neg h]
theorem recsE_zero : ∀ {l : List Rec}, recsE l = 0 ↔ ∀ r ∈ l, nck r.ow = 0 ∧ checkF r.t r.d = 0
  | [] => by simp [recsE]
  | r :: l => by
    have ih := recsE_zero (l := l)
    simp only [recsE, List.mem_cons, forall_eq_or_imp]
    constructor
    · intro h
      split at h
      · next h0 =>
        refine ⟨?_, ih.1 h⟩
        unfold recE at h0
        split at h0
        · next h1 => exact ⟨h1, h0⟩
        · next h1 => exact absurd h0 h1
      · next h0 => exact absurd h h0
    · rintro ⟨⟨h1, h2⟩, h3⟩
      have : recE r = 0 := by unfold recE; rw [if_pos h1, h2]
      rw [if_pos this]
      exact ih.2 h3
theorem qnsE_zero : ∀ {l : List Qn}, qnsE l = 0 ↔ ∀ q ∈ l, nck q.nm = 0
  | [] => by simp [qnsE]
  | q :: l => by
    have ih := qnsE_zero (l := l)
    simp only [qnsE, List.mem_cons, forall_eq_or_imp]
    constructor
    · intro h
      split at h
      · next h0 => exact ⟨h0, ih.1 h⟩
      · next h0 => exact absurd h h0
    · rintro ⟨h1, h3⟩
      rw [if_pos h1]
      exact ih.2 h3
structure ChkOk (m : Mg) : Prop where
  hd : hdOk m.h
  nq : m.qs.length ≤ 16
  nr : tot m ≤ 512
  qs : ∀ q ∈ m.qs, nck q.nm = 0
  l1 : ∀ r ∈ m.l1, nck r.ow = 0 ∧ checkF r.t r.d = 0
  l2 : ∀ r ∈ m.l2, nck r.ow = 0 ∧ checkF r.t r.d = 0
  l3 : ∀ r ∈ m.l3, nck r.ow = 0 ∧ checkF r.t r.d = 0
theorem chkM_zero {m : Mg} : chkM m = 0 ↔ ChkOk m := by
  unfold chkM
  constructor
  · intro h
    split at h
    · next h1 =>
      split at h
      · cases h
      · next h2 =>
        split at h
        · next h3 =>
          have h4 := recsE_zero.1 h
          exact ⟨h1, by omega, by omega, qnsE_zero.1 h3, fun r hr => h4 r (by simp [hr]), fun r hr => h4 r (by simp [hr]), fun r hr => h4 r (by simp [hr])⟩
        · next h3 => exact absurd h h3
    · cases h
  · intro h
    rw [if_pos h.hd, if_neg (by have := h.nq; have := h.nr; omega), if_pos (qnsE_zero.2 h.qs)]
    refine recsE_zero.2 fun r hr => ?_
    simp only [List.mem_append] at hr
    rcases hr with hr | hr | hr
    · exact h.l1 r hr
    · exact h.l2 r hr
    · exact h.l3 r hr
/-- What is read of a head. -/
def rdH (zs : List Int) : Hd := ⟨nv zs 0, unfl (nv zs 1) 32768, (unop (nv zs 1) : Nat), unfl (nv zs 1) 1024, unfl (nv zs 1) 512, unfl (nv zs 1) 256, unfl (nv zs 1) 128, unfl (nv zs 1) 32, unfl (nv zs 1) 16, (unrc (nv zs 1) : Nat)⟩
def gbody (c0 c1 c2 c3 : Nat) (zs : List Int) (p : Nat) : Option ((List Qn × List Rec × List Rec × List Rec) × Nat) :=
  (gmany (gqn zs) c0 p).bind fun q => (gmany (grec zs) c1 q.2).bind fun a => (gmany (grec zs) c2 a.2).bind fun u => (gmany (grec zs) c3 u.2).map fun d => ((q.1, a.1, u.1, d.1), d.2)
def hdBad (zs : List Int) : Prop := (zs.length < 12 ∨ unfl (nv zs 1) 64 = true) ∨ ¬ (nv zs 2 ≤ 16 ∧ nv zs 3 + nv zs 4 + nv zs 5 ≤ 512)
instance (zs : List Int) : Decidable (hdBad zs) := inferInstanceAs (Decidable (_ ∨ _))
def gmsg (zs : List Int) : Option Mg :=
  if hdBad zs then none
  else (gbody (nv zs 2) (nv zs 3) (nv zs 4) (nv zs 5) zs 12).bind fun x => if x.2 = zs.length then some ⟨rdH zs, x.1.1, x.1.2.1, x.1.2.2.1, x.1.2.2.2⟩ else none
theorem bak_recs {l : List Rec} (h : ∀ r ∈ l, nck r.ow = 0 ∧ checkF r.t r.d = 0) (hb : ∀ r ∈ l, Rb r) : Bak (pls (l.map prec)) (fun zs => gmany (grec zs) l.length) l ∧ Kps (pls (l.map prec)) := by
  constructor
  · have := bak_many (r := grec) (l.map fun r => (prec r, r)) (by
      intro x hx
      obtain ⟨r, hr, rfl⟩ := List.mem_map.1 hx
      have hbr := hb r hr
      exact ⟨bak_rec (h r hr).1 (h r hr).2 hbr.1 hbr.2.1 hbr.2.2, kps_rec (h r hr).1 (h r hr).2⟩)
    simpa [List.map_map, Function.comp_def] using this
  · refine kps_ls _ fun f hf => ?_
    obtain ⟨r, hr, rfl⟩ := List.mem_map.1 hf
    exact kps_rec (h r hr).1 (h r hr).2
theorem bak_qns {l : List Qn} (h : ∀ r ∈ l, nck r.nm = 0) (hb : ∀ r ∈ l, Qb r) : Bak (pls (l.map pqn)) (fun zs => gmany (gqn zs) l.length) l ∧ Kps (pls (l.map pqn)) := by
  constructor
  · have := bak_many (r := gqn) (l.map fun r => (pqn r, r)) (by
      intro x hx
      obtain ⟨r, hr, rfl⟩ := List.mem_map.1 hx
      exact ⟨bak_qn (h r hr) (hb r hr).1 (hb r hr).2, kps_qn (h r hr)⟩)
    simpa [List.map_map, Function.comp_def] using this
  · refine kps_ls _ fun f hf => ?_
    obtain ⟨r, hr, rfl⟩ := List.mem_map.1 hf
    exact kps_qn (h r hr)
theorem bak_body {m : Mg} (h : ChkOk m) (hb : Mb m) : Bak (pbody m) (gbody m.qs.length m.l1.length m.l2.length m.l3.length) (m.qs, m.l1, m.l2, m.l3) := by
  obtain ⟨q1, q2⟩ := bak_qns h.qs hb.2.1
  obtain ⟨a1, a2⟩ := bak_recs h.l1 hb.2.2.1
  obtain ⟨u1, u2⟩ := bak_recs h.l2 hb.2.2.2.1
  obtain ⟨d1, d2⟩ := bak_recs h.l3 hb.2.2.2.2
  exact bak_bind (k := fun q zs p => (gmany (grec zs) m.l1.length p).bind fun a => (gmany (grec zs) m.l2.length a.2).bind fun u => (gmany (grec zs) m.l3.length u.2).map fun d => ((q, a.1, u.1, d.1), d.2)) q1 q2
    (bak_bind (k := fun a zs p => (gmany (grec zs) m.l2.length p).bind fun u => (gmany (grec zs) m.l3.length u.2).map fun d => ((m.qs, a, u.1, d.1), d.2)) a1 a2
      (bak_bind (k := fun u zs p => (gmany (grec zs) m.l3.length p).map fun d => ((m.qs, m.l1, u, d.1), d.2)) u1 u2 (bak_map (fun d => (m.qs, m.l1, m.l2, d)) d1)))
theorem hdB_len (h : Hd) (c0 c1 c2 c3 : Nat) : (hdB h c0 c1 c2 c3).length = 12 := by rw [hdB, b16s_len]; rfl
theorem hdN_lt {h : Hd} (ho : hdOk h) : hdN h < 65536 := packN_lt (by have := ho.2.1; omega) (by have := ho.2.2.2; omega) _ _ _ _ _ _ _
theorem nv_app {zs ms : List Int} {j : Nat} (h : 2 * j + 2 ≤ zs.length) : nv (zs ++ ms) j = nv zs j := by
  unfold nv
  rw [List.drop_append_of_le_length (by omega), List.take_append_of_le_length (by simp; omega)]
theorem hdB_nv {h : Hd} {c0 c1 c2 c3 : Nat} (ho : hdOk h) (hi : h.id < 65536) (h0 : c0 < 65536) (h1 : c1 < 65536) (h2 : c2 < 65536) (h3 : c3 < 65536) (R : List Int) :
    rdH (hdB h c0 c1 c2 c3 ++ R) = h ∧ unfl (nv (hdB h c0 c1 c2 c3 ++ R) 1) 64 = false ∧ nv (hdB h c0 c1 c2 c3 ++ R) 2 = c0 ∧ nv (hdB h c0 c1 c2 c3 ++ R) 3 = c1 ∧ nv (hdB h c0 c1 c2 c3 ++ R) 4 = c2 ∧ nv (hdB h c0 c1 c2 c3 ++ R) 5 = c3 := by
  have hl := hdB_len h c0 c1 c2 c3
  obtain ⟨e0, e1, e2, e3, e4, e5⟩ := nv_b16s h.id (hdN h) c0 c1 c2 c3 hi (hdN_lt ho) h0 h1 h2 h3
  unfold rdH
  rw [nv_app (by omega), nv_app (by omega), nv_app (by omega), nv_app (by omega), nv_app (by omega), nv_app (by omega)]
  unfold hdB
  rw [e0, e1, e2, e3, e4, e5]
  have hU := un_pack (op := h.op.toNat) (rc := h.rc.toNat) (by have := ho.2.1; omega) (by have := ho.2.2.2; omega) h.rs h.aa h.tc h.rd h.ra h.ad h.cd (hdN h) rfl
  obtain ⟨u1, u2, u3, u4, u5, u6, u7, u8, u9, u10⟩ := hU
  refine ⟨?_, ?_, rfl, rfl, rfl, rfl⟩
  · obtain ⟨id, rs, op, aa, tc, rd, ra, ad, cd, rc⟩ := h
    simp only [Hd.mk.injEq]
    have a1 := ho.1
    have a2 := ho.2.2.1
    simp only at *
    simp only [*]
    simp
    omega
  · assumption
theorem prun_some {f : Pc} {tx : List Int} {pl : PLs} {s : List Int × PLs} (h : prun f (some (tx, pl)) = some s) : s = (tx ++ (f pl tx.length).1, (f pl tx.length).2) ∧ tx.length + (f pl tx.length).1.length ≤ 65535 := by
  simp only [prun, Option.bind_some] at h
  split at h
  · cases h
  · next hn => cases h; exact ⟨rfl, by omega⟩
/-- A message that is written is read again as it was. -/
theorem msg_back {m : Mg} (h : ChkOk m) (hb : Mb m) {zs : List Int} {pl : PLs} (hr : prun (pmsg m) (some ([], [])) = some (zs, pl)) : gmsg zs = some m ∧ zs.length ≤ 65535 ∧ 12 ≤ zs.length := by
  obtain ⟨e, hl⟩ := prun_some hr
  simp only [List.nil_append, List.length_nil, Nat.zero_add, Prod.mk.injEq] at e hl
  have hH := hdB_len m.h m.qs.length m.l1.length m.l2.length m.l3.length
  have hz : zs = hdB m.h m.qs.length m.l1.length m.l2.length m.l3.length ++ (pbody m [] 12).1 := by
    rw [e.1]; simp only [pmsg, psq, pby, hH, Nat.zero_add]
  have hzl : zs.length = 12 + (pbody m [] 12).1.length := by rw [hz, List.length_append, hH]
  have hzb : zs.length ≤ 65535 := by rw [e.1]; exact hl
  have hnr := h.nr
  have hnq := h.nq
  unfold tot at hnr
  obtain ⟨n0, n1, n2, n3, n4, n5⟩ := hdB_nv (c0 := m.qs.length) (c1 := m.l1.length) (c2 := m.l2.length) (c3 := m.l3.length) h.hd hb.1 (by omega) (by omega) (by omega) (by omega) (pbody m [] 12).1
  have hB := bak_body h hb (hdB m.h m.qs.length m.l1.length m.l2.length m.l3.length) [] [] (QInv.nil0 _)
  rw [hH, List.append_nil, ← hz] at hB
  have hB := hB (by omega)
  rw [← hz] at n0 n1 n2 n3 n4 n5
  refine ⟨?_, hzb, by omega⟩
  have hnb : ¬ hdBad zs := by
    unfold hdBad
    rw [n1, n2, n3, n4, n5]
    simp
    omega
  unfold gmsg
  rw [if_neg hnb, n2, n3, n4, n5, hB]
  simp only [Option.bind_some]
  rw [if_pos hzl.symm, n0]
end Go.Proofs.YtkjnbgekaifdfaaGreat
namespace Go.Proofs.YtkjnbgekaifdfaaGreat
open Go.ChangeShapes Go.WideShapes Go.ChangeAt Go.RowKit Go.Maps
set_option linter.unusedVariables false
set_option linter.unusedSimpArgs false
theorem grown_set (W : World) (b k : Nat) (v : Value) : W.grownBy (W.setCell ⟨b, k, none⟩ v) (some b) :=
  ⟨rfl, rfl, rfl, by simp, fun j hj hne => Below.heap_setCell _ _ _ j (fun e => hne (by rw [e]))⟩
theorem Own.blk5 {B : Nat} {w : World} {v : Value} {n : Nat} {zs : List Int} (h : Own B w v n zs) : ∀ g, v.ownBlock = some g → B ≤ g ∧ ∃ cs, w.heap[g]? = some (.cells cs 5 (0, 0)) := by
  intro g hg
  rcases h with ⟨rfl, _⟩ | ⟨g', rfl, h2, h3, _⟩
  · cases hg
  · obtain rfl : g' = g := Option.some.inj hg
    exact ⟨h2, h3.type⟩
theorem Wr1.old {B : Nat} {w w1 : World} {g : Nat} {tx : List Int} {pl : List (ByteArray × Nat)} {v : Value} {ys : List Int} {mb : Nat} (h : Wr1 B w g tx pl v ys mb) (hG : w.grownBy w1 v.ownBlock) :
    w1.heap[g]? = some (.cells #[.pointer (some ⟨g, 0, none⟩), v, .map (some mb)] 125) ∧ PlM w1 mb pl := by
  constructor
  · refine (hG.block g (box_lt h.box) (fun e => ?_)).trans h.box
    obtain ⟨_, cs, e1⟩ := h.own.blk5 g e.symm
    rw [h.box] at e1; cases e1
  · obtain ⟨es, c, e4⟩ := h.map.isMap
    refine h.map.same (hG.block mb (box_lt e4) (fun e => ?_))
    obtain ⟨_, cs, e1⟩ := h.own.blk5 mb e.symm
    rw [e4] at e1; cases e1
theorem Wr1.stored {B : Nat} {w w1 : World} {g : Nat} {tx tx' : List Int} {pl : List (ByteArray × Nat)} {v v' : Value} {ys ys' : List Int} {mb : Nat} (h : Wr1 B w g tx pl v ys mb) (hG : w.grownBy w1 v.ownBlock) (hO : Own B w1 v' tx'.length ys') (ht : ys'.take tx'.length = tx') (hB : B ≤ w.heap.size) :
    Wr1 B (w1.setCell ⟨g, 1, none⟩ v') g tx' pl v' ys' mb ∧ Fr B w (w1.setCell ⟨g, 1, none⟩ v') := by
  obtain ⟨hb, hm⟩ := h.old hG
  have hg : w1.grownBy (w1.setCell ⟨g, 1, none⟩ v') (some g) := grown_set w1 g 1 v'
  have hne : ∀ k, v'.ownBlock = some k → k ≠ g := by
    rintro k hk rfl
    obtain ⟨_, cs, e1⟩ := hO.blk5 k hk
    rw [hb] at e1; cases e1
  obtain ⟨es, c, e4⟩ := hm.isMap
  have hmg : mb ≠ g := by rintro rfl; rw [hb] at e4; cases e4
  refine ⟨⟨?_, h.gB, h.mB, ?_, ht, ?_⟩, ?_, ?_⟩
  · have := box_set hb 1 v'
    rw [this]; rfl
  · refine hO.keepAt (fun k hk hl => hg.block k hl (fun e => ?_))
    simp only [Option.some.injEq] at e
    exact hne k hk e
  · refine hm.same (hg.block mb (box_lt e4) (fun e => ?_))
    simp only [Option.some.injEq] at e
    exact hmg e
  · have b1 : Below B w w1 := (Below.refl B w).grown hG hB (fun k e => (h.own.blk5 k e).1)
    exact b1.setCell h.gB _
  · intro j cs t fr hj h5 h50
    have hj1 : w1.heap[j]? = w.heap[j]? := hG.block j (box_lt hj) (fun e => by
      obtain ⟨_, cs', e1⟩ := h.own.blk5 j e.symm
      rw [hj] at e1; cases e1; exact h5 rfl)
    have hj2 : (w1.setCell ⟨g, 1, none⟩ v').heap[j]? = w1.heap[j]? := hg.block j (box_lt (hj1.trans hj)) (fun e => by
      simp only [Option.some.injEq] at e
      subst e
      rw [h.box] at hj; cases hj; exact h50 rfl)
    exact hj2.trans hj1
set_option maxRecDepth 100000 in
set_option maxHeartbeats 1000000 in
theorem sqnew_any (w : World) : Calls Tryz.prog 52 #[] w fun e w' => e = .returned (.pointer (some ⟨w.heap.size + 1, 0, none⟩)) ∧ Hid (Wr w.heap.size w' (w.heap.size + 1) [] [] ∧ Below w.heap.size w w') := by
  have hmm := @run_makeMap Tryz.prog
  go_enter Tryz.func52, Tryz.ntmps52
  go_wp2
  go_ret
  refine ⟨rfl, ?_⟩
  have hb0 : ((w.alloc (.map #[] 0)).alloc (.cells #[.pointer (some ⟨w.heap.size + 1, 0, none⟩), .slice none 0 0, .map (some w.heap.size)] 125)).heap[w.heap.size + 1]? = some (.cells #[.pointer (some ⟨w.heap.size + 1, 0, none⟩), .slice none 0 0, .map (some w.heap.size)] 125) := by
    have := World.alloc_heap_new (w.alloc (.map #[] 0)) (.cells #[.pointer (some ⟨w.heap.size + 1, 0, none⟩), .slice none 0 0, .map (some w.heap.size)] 125)
    simpa using this
  have hm0 : PlM ((w.alloc (.map #[] 0)).alloc (.cells #[.pointer (some ⟨w.heap.size + 1, 0, none⟩), .slice none 0 0, .map (some w.heap.size)] 125)) w.heap.size [] := (PlM.made w).same (Below.heap_alloc _ _ _ (by simp))
  exact ⟨⟨.slice none 0 0, [], w.heap.size, hb0, by omega, Nat.le_refl _, .inl ⟨rfl, rfl, rfl⟩, rfl, hm0⟩, ((Below.refl _ w).alloc (Nat.le_refl _) _).alloc (by simp) _⟩
end Go.Proofs.YtkjnbgekaifdfaaGreat
namespace Go.Proofs.YtkjnbgekaifdfaaGreat
open Go.ChangeShapes Go.WideShapes Go.ChangeAt Go.RowKit Go.Maps
set_option linter.unusedVariables false
set_option linter.unusedSimpArgs false
theorem below_dn (w : World) (n : Nat) : Below w.heap.size w (w.drewN n) := ⟨rfl, rfl, rfl, Nat.le_refl _, fun _ _ => rfl⟩
end Go.Proofs.YtkjnbgekaifdfaaGreat
namespace Go.Proofs.YtkjnbgekaifdfaaGreat
open Go.ChangeShapes Go.WideShapes Go.ChangeAt Go.RowKit Go.Deep
set_option linter.unusedVariables false
set_option linter.unusedSimpArgs false
/-- A name that came in: it lies there; its labels and their number are what a machine can hold. -/
structure Arg (w : World) (a : Option Addr) (n : Nat) (ss : List ByteArray) : Prop where
  rd : RdT w a ss
  len : ss.length = n
  n63 : n ≤ 9223372036854775807
  z63 : ∀ s ∈ ss, s.size ≤ 9223372036854775807
set_option maxRecDepth 100000 in
set_option maxHeartbeats 1000000 in
theorem pcheckA_wide (a : Option Addr) (len cap : Nat) (ss : List ByteArray) (w : World) (hr : RdT w a ss) (hl : ss.length = len) (hm : labsOk ss → nsz ss ≤ 1000000000000000) (hlen : len ≤ 9223372036854775807) (hz : ∀ s ∈ ss, s.size ≤ 9223372036854775807) :
    Calls Tryz.prog 42 #[.slice a len cap] w fun e w' => e = .returned (.int .i64 (nck ss)) ∧ w' = w := by
  have HR : Hid (RdT w a ss ∧ ∀ s ∈ ss, s.size ≤ 9223372036854775807) := ⟨hr, hz⟩
  have HL : Hid (ss.length = len) := hl
  have HS : Hid (labsOk ss → ∀ W, RdT W a ss → Calls Tryz.prog 49 #[.slice a len cap] W fun e w' => e = .returned (.int .i64 (nsz ss)) ∧ w' = W) := fun ho W hW => psize_eq a len cap ss W hW hl (hm ho)
  obtain ⟨T, hT⟩ : ∃ T, nsz ss = T := ⟨_, rfl⟩
  have HT : Hid (nsz ss = T) := hT
  rw [hT] at HS
  clear hr hl hT hz hm
  go_enter Tryz.func42, Tryz.ntmps42
  go_wp2_with fail
  go_loopw [8] (fun x wr => ∃ k : Nat, k ≤ len ∧ x = .int .i64 k ∧ wr = w ∧ Hid (∀ i (h : i < ss.length), i < k → chk ss[i].size = 0)) (fun x _ => len - (intOf x).toNat)
  case atStart => exact ⟨0, Nat.zero_le _, rfl, rfl, fun i _ h => absurd h (by omega)⟩
  case round =>
    obtain ⟨k, hk, rfl, rfl, HK⟩ := hrel
    by_cases hlt : k < len
    · have hlt' : (k : Int) < (len : Int) := by omega
      have hks : k < ss.length := by rw [HL.out]; exact hlt
      obtain ⟨b, o, rfl, hb, hc⟩ := HR.out.1.at k hks
      have HC : Hid (∀ W, Calls Tryz.prog 71 #[.string ss[k]] W fun e w' => e = .returned (.int .i64 (chk ss[k].size)) ∧ w' = W) := fun W => chk_any ss[k] W (HR.out.2 _ (List.getElem_mem hks))
      rcases chk_cases ss[k].size with hk0 | hk4
      · have HN : Hid (∀ i (h : i < ss.length), i < k + 1 → chk ss[i].size = 0) := by
          intro i h hi
          by_cases e : i = k
          · subst e; exact hk0
          · exact HK.out i h (by omega)
        rw [hk0] at HC
        clear hk0 HK
        generalize ss[k] = s at *
        go_wp2_with fail
        refine (HC.out _).mono ?_
        rintro e w1 ⟨rfl, rfl⟩
        go_wp2
        exact ⟨⟨k + 1, by omega, by go_num, trivial, HN⟩, by simp [intOf]; omega⟩
      · have HE : Hid (nck ss = 4) := by
          show nck ss = 4
          unfold nck
          rw [if_neg (fun h => by have := h _ (List.getElem_mem hks); rw [hk4] at this; cases this)]
        rw [hk4] at HC
        clear hk4 HK
        generalize ss[k] = s at *
        go_wp2_with fail
        refine (HC.out _).mono ?_
        rintro e w1 ⟨rfl, rfl⟩
        go_wp2
        go_ret
        exact ⟨by rw [HE.out]; rfl, rfl⟩
    · have hge : (len : Int) ≤ (k : Int) := by omega
      have HO : Hid (labsOk ss) := by
        intro s hs
        obtain ⟨i, hi, rfl⟩ := List.getElem_of_mem hs
        exact HK.out i hi (by have := HL.out; omega)
      by_cases hb : 255 < T
      · have HE : Hid (nck ss = 5) := by show nck ss = 5; unfold nck; rw [if_pos HO.out, HT.out, if_pos hb]
        have hb' : (255 : Int) < (T : Int) := by omega
        clear HK
        go_wp2_with fail
        refine (HS.out HO.out _ HR.out.1).mono ?_
        rintro e w1 ⟨rfl, rfl⟩
        go_wp2
        go_ret
        exact ⟨by rw [HE.out]; rfl, rfl⟩
      · have HE : Hid (nck ss = 0) := by show nck ss = 0; unfold nck; rw [if_pos HO.out, HT.out, if_neg hb]
        have hb' : ¬ (255 : Int) < (T : Int) := by omega
        clear HK
        go_wp2_with fail
        refine (HS.out HO.out _ HR.out.1).mono ?_
        rintro e w1 ⟨rfl, rfl⟩
        go_wp2
        go_ret
        exact ⟨by rw [HE.out]; rfl, rfl⟩
theorem labs_nsz {ss : List ByteArray} (h : labsOk ss) : nsz ss ≤ 64 * ss.length + 1 := nsz_bd ss fun s hs => (chk_ok (h s hs)).2
theorem Arg.nm {w : World} {a : Option Addr} {n : Nat} {ss : List ByteArray} (h : Arg w a n ss) (hk : nck ss = 0) : Nm w a n ss := ⟨h.rd, h.len, by have := (nck_small hk).1; omega⟩
end Go.Proofs.YtkjnbgekaifdfaaGreat
namespace Go.Proofs.YtkjnbgekaifdfaaGreat
open Go.ChangeShapes Go.WideShapes Go.ChangeAt Go.RowKit Go.Shelf
set_option linter.unusedVariables false
set_option linter.unusedSimpArgs false
attribute [local go_sem] Oper.semAt_some
/-- What the iterator hands out: a label's number. -/
abbrev Ix (n : Nat) := { k : Nat // k < n }
/-- The first k. -/
def iup (n : Nat) : Nat → List (Ix n)
  | 0 => []
  | k + 1 => if h : k < n then iup n k ++ [⟨k, h⟩] else iup n k
theorem iup_succ {n k : Nat} (h : k < n) : iup n (k + 1) = iup n k ++ [⟨k, h⟩] := by simp [iup, h]
theorem iup_len {n : Nat} : ∀ {k : Nat}, k ≤ n → (iup n k).length = k
  | 0, _ => rfl
  | k + 1, h => by rw [iup_succ (by omega), List.length_append, iup_len (by omega)]; rfl
/-- What a round must keep for the iterator: its box. -/
def KpS (Bs : Nat) (A B : World) : Prop := ∀ v, Boxed A Bs 9 v → Boxed B Bs 9 v
theorem kpS_t {Bs : Nat} {A B C : World} (h : KpS Bs A B) (k : KpS Bs B C) : KpS Bs A C := fun v hv => k v (h v hv)
theorem kpS_b {Bs : Nat} {w : World} (W : World) (l : Nat) (o o' : Obj) (hl : w.heap.size ≤ l) (h : W.heap[l]? = some o) (hc : o.isCells = false) (hw : o.isWalk = false) : KpS Bs W (W.putObj l o') :=
  fun v hv => hv.kept (grownBy_putObj' W l o') (fun e => by cases e; rw [show W.heap[Bs]? = _ from hv] at h; cases h; cases hc)
set_option maxRecDepth 100000 in
theorem tails_any (s : ByteArray) (w : World) : Calls Tryz.prog 134 #[.string s] w fun e w' => e = .returned (.func (.func 148) #[] #[.pointer (some ⟨w.heap.size, 0, none⟩)]) ∧ w' = w.alloc (.cells #[.string s] 9) := by
  go_enter Tryz.func134, Tryz.ntmps134
  go_wp2
  go_ret
  exact ⟨rfl, rfl⟩
theorem qkey_byte (ss : List ByteArray) (h : labsOk ss) (p k : Nat) (hp : p < (qkey ss).size) (hk : k < ss.length) (e : p = offs ss k) : ((qkey ss)[p].toNat : Int) = (ss[k].size : Int) := by
  have := qkey_at ss h k hk
  rw [← e, nums_at _ p hp] at this
  exact this
theorem qkey_byte0 (ss : List ByteArray) (h : labsOk ss) (p : Nat) (hp : p < (qkey ss).size) (e : p = offs ss ss.length) : ((qkey ss)[p].toNat : Int) = 0 := by
  have := qkey_end ss h
  rw [← e, nums_at _ p hp] at this
  exact this
set_option maxRecDepth 100000 in
set_option maxHeartbeats 2000000 in
theorem tails1_in (F : Fence) (n : Nat) (h59 : F.fn 148) (hro : F.round = none) (hn : 1 ≤ n) (l Bs : Nat) (ss : List ByteArray) (hk : nck ss = 0) (J Jx : List (Ix ss.length) → World → Prop)
    (hY : ∀ pre x W, J pre W → pre.length < ss.length → YieldAt F (n - 1) Tryz.prog l #[.int .i64 (offs ss x.1 : Nat)] W fun e W' =>
      (e = .returned (.bool true) ∧ J (pre ++ [x]) W' ∧ KpS Bs W W') ∨ (e = .returned (.bool false) ∧ Jx (pre ++ [x]) W'))
    (W : World) (hBs : Boxed W Bs 9 (.string (qkey ss))) (h0 : J [] W) :
    CallsIn F n Tryz.prog 148 #[.func (.yield l) #[] #[], .pointer (some ⟨Bs, 0, none⟩)] W fun e W' => (∃ v, e = .returned v) ∧
      ((∃ ys, ys = iup ss.length ss.length ∧ J ys W') ∨ (∃ pre, (∃ k, k ≤ ss.length ∧ pre = iup ss.length k) ∧ Jx pre W')) := by
  have HO : Hid (labsOk ss ∧ nsz ss ≤ 255) := ⟨labs_of hk, (nck_small hk).1⟩
  obtain ⟨s, hs⟩ : ∃ s, qkey ss = s := ⟨_, rfl⟩
  have HS : Hid (qkey ss = s) := hs
  rw [hs] at hBs
  have hz : s.size ≤ 255 := by rw [← hs, qkey_size]; exact HO.out.2
  clear hs
  refine callsIn_of_wp Tryz.func148 rfl h59 ?_ hro
  simp only [Tryz.ntmps148, List.size_toArray, List.length_cons, List.length_nil, Nat.reduceAdd, Nat.reduceSub, Array.replicate_succ, Array.replicate_zero, List.push_toArray, List.append_toArray, List.nil_append, List.cons_append]
  gi_wp2
  gi_loopw [3] (fun i wr => ∃ (k p : Nat), k ≤ ss.length ∧ p ≤ 255 ∧ Hid (p = offs ss k) ∧ i = .int .i64 p ∧ J (iup ss.length k) wr ∧ KpS Bs W wr)
    (fun i _ => 255 - (intOf i).toNat)
  case atStart => exact ⟨0, 0, Nat.zero_le _, by omega, (offs_zero ss).symm, rfl, h0, fun _ h => h⟩
  case round =>
    obtain ⟨k, p, hkl, hp255, HP, rfl, hJs, hnx⟩ := hrel
    have hcB := (hnx _ hBs).cell
    have hps : p < s.size := by rw [← HS.out, qkey_size, HP.out]; have := offs_le ss k; omega
    have hps' : (p : Int) < (s.size : Int) := by omega
    by_cases hlt : k < ss.length
    · have hby : (s[p].toNat : Int) = (ss[k].size : Int) := by
        have hx : p < (qkey ss).size := by rw [HS.out]; exact hps
        have := qkey_byte ss HO.out.1 p k hx hlt HP.out
        simpa [HS.out] using this
      have hsz := chk_ok (HO.out.1 ss[k] (List.getElem_mem hlt))
      have HP2 : Hid (p + 1 + ss[k].size = offs ss (k + 1)) := (show _ = _ by rw [offs_succ ss k hlt, ← HP.out])
      have hp2 : p + 1 + ss[k].size ≤ 255 := by rw [HP2.out]; have := offs_le ss (k + 1); have := HO.out.2; omega
      obtain ⟨fn, tmps, assign, body, hy, hRd⟩ := hY _ ⟨k, hlt⟩ wr hJs (by rw [iup_len hkl]; exact hlt)
      dsimp only at hy
      rw [← HP.out] at hy
      rw [← iup_succ hlt] at hRd
      generalize ss[k].size = z at *
      have hz0 : ((z : Int) == 0) = false := by simp; omega
      have hz1 : ((z : Int) != 0) = true := by simp; omega
      gi_wp2
      refine hRd.mono ?_
      rintro e W3 (⟨rfl, hJ3, hk3⟩ | ⟨rfl, hJx3⟩)
      · have hcB3 := (hk3 _ (hnx _ hBs)).cell
        gi_wp2
        go_roundw
        case rel => exact ⟨k + 1, p + 1 + z, by omega, hp2, HP2, by go_num, hJ3, kpS_t hnx hk3⟩
        case measure => simp [intOf]; omega
      · gi_wp2
        go_end0
        exact ⟨⟨_, rfl⟩, .inr ⟨_, ⟨k + 1, by omega, rfl⟩, hJx3⟩⟩
    · obtain rfl : k = ss.length := by omega
      have hby : (s[p].toNat : Int) = 0 := by
        have hx : p < (qkey ss).size := by rw [HS.out]; exact hps
        have := qkey_byte0 ss HO.out.1 p hx HP.out
        simpa [HS.out] using this
      gi_wp2
      refine ⟨fun f h => (by cases h), ?_⟩
      gi_wp2
      go_end0
      exact ⟨⟨_, rfl⟩, .inl ⟨_, rfl, hJs⟩⟩
theorem tails_stops (F : Fence) (n : Nat) (h59 : F.fn 148) (hro : F.round = none) (hn : 1 ≤ n) (Bs : Nat) (ss : List ByteArray) (hk : nck ss = 0) (w0 : World) (hBs : Boxed w0 Bs 9 (.string (qkey ss))) :
    SeqStopsK F n Tryz.prog 148 #[.pointer (some ⟨Bs, 0, none⟩)] (fun x : Ix ss.length => #[Value.int .i64 (offs ss x.1 : Nat)]) (KpS Bs) (fun ys => ys = iup ss.length ss.length) (fun pre => ∃ k, k ≤ ss.length ∧ pre = iup ss.length k) ss.length w0 := fun l J Jx W hW _ _ hY h0 =>
  tails1_in F n h59 hro hn l Bs ss hk J Jx hY W ((hW.block Bs hBs.lt).trans hBs) h0
end Go.Proofs.YtkjnbgekaifdfaaGreat
namespace Go.Proofs.YtkjnbgekaifdfaaGreat
open Go.ChangeShapes Go.WideShapes Go.ChangeAt Go.RowKit Go.Shelf
set_option linter.unusedVariables false
set_option linter.unusedSimpArgs false
def noDefer (o : Oper) : Bool := match o.op with
  | .defer _ => false
  | _ => true
theorem noDefer_ne {o : Oper} (h : noDefer o = true) : ∀ c, o.op ≠ .defer c := by
  intro c e
  unfold noDefer at h
  rw [e] at h
  cases h
theorem wpIn_op_round {F : Fence} {n l : Nat} {P : Program} {o : Oper} {a : Act} {w : World} {K : Act → World → Prop} {Q : Exit → Act → World → Prop} (hd : noDefer o = true) (h : o.wpIn F n P a w K Q) : o.wpIn (F.inRound l) n P a w K Q := by
  obtain ⟨h1, h2⟩ := h
  refine ⟨h1, ?_⟩
  rw [Oper.semAt_eq _ _ _ (noDefer_ne hd)] at h2 ⊢
  exact h2
theorem wpAny_round {F : Fence} {n l : Nat} {P : Program} {md : Region.Mode} {ops : Array Oper} {Q : Exit → Act → World → Prop} (hd : ∀ (i : Nat) (o : Oper), ops[i]? = some o → noDefer o = true) :
    ∀ (fuel : Nat) (listed : Array Bool) (a : Act) (w : World), wpAnyIn F n P md ops Q fuel listed a w → wpAnyIn (F.inRound l) n P md ops Q fuel listed a w
  | 0, _, _, _, h => h
  | fuel + 1, listed, a, w, h => by
    refine ⟨h.1, fun i hi => ?_⟩
    have hx := h.2 i hi
    unfold wpOpIn at hx ⊢
    cases ho : ops[i]? with
    | none => simp only [ho] at hx ⊢; exact wpAny_round hd fuel _ _ _ hx
    | some o =>
      simp only [ho] at hx ⊢
      by_cases hw : Region.wanted o (yielded ops a.tmps) = true
      · rw [if_pos hw] at hx ⊢
        exact wpIn_op_round (hd i o ho) (Oper.wpIn_mono (fun a' w' h' => wpAny_round hd fuel _ a' w' h') hx)
      · rw [if_neg hw] at hx ⊢
        exact ⟨hx.1, wpAny_round hd fuel _ _ _ hx.2⟩
theorem region_round {F : Fence} {n r id : Nat} {P : Program} {Q : Exit → Act → World → Prop} {a : Act} {w : World} {l : List Oper} (hro : F.round = none) (hd : l.all noDefer = true) (hm : P.follows .mixedOrders = true) (hB : Region.lexB .any l.toArray = true)
    (h : wpQuietIn F n P l.toArray (fun w' => ∃ k, w' = w.drewN k) (fun a' => ∀ w', (∃ k, w' = w.drewN k) → Q .normal a' w') l a) : (Code.region id l.toArray true).wpIn (F.inRound r) n P Q a w := by
  simp only [Region.lexB, Bool.and_eq_true] at hB
  refine wpIn_region_any hm (wpAny_round ?_ _ _ _ _ (wpAnyIn_of_quiet (C := fun w' => ∃ k, w' = w.drewN k) (Q := fun a' => ∀ w', (∃ k, w' = w.drewN k) → Q .normal a' w') hro (fun _ w' hw' h => h w' hw') _ _ _ _ ⟨1, rfl⟩ ?_))
  · intro i o ho
    have : l[i]? = some o := by simpa using ho
    exact List.all_eq_true.1 hd o (List.mem_of_getElem? this)
  · have := wpAnyQIn_lex (F := F) (n := n) (P := P) (C := fun w' => ∃ k, w' = w.drewN k) (md := .any) (ops := l.toArray) (Q := fun a' => ∀ w', (∃ k, w' = w.drewN k) → Q .normal a' w') hB.1 l 0 (Array.replicate l.toArray.size false) a (by simp) (by simpa using hB.2) h
    simpa using this
end Go.Proofs.YtkjnbgekaifdfaaGreat
namespace Go.Proofs.YtkjnbgekaifdfaaGreat
open Go.ChangeShapes Go.WideShapes Go.ChangeAt Go.RowKit Go.Maps
set_option linter.unusedVariables false
set_option linter.unusedSimpArgs false
theorem run_append_cut (w : World) (ty : TypeId) (x : Addr) (n : Nat) (olds : List Int) (hr : Rd w (some x) olds) (hl : olds.length = n) (ao : Option Addr) (m c : Nat) (news : List Int) (hrn : Rd w ao news) (hln : news.length = m) (h1 : 1 ≤ m) (hb : n + m ≤ 100000) :
    ∃ v' w' ys, (Builtin.append_ #[29, 29] ty #[.slice (some x) n n, .slice ao m c]).run Tryz.prog w = .ok v' w' ∧ Own w.heap.size w' v' (n + m) ys ∧ ys.take (n + m) = olds ++ news ∧ Below w.heap.size w w' := by
  obtain ⟨i, hi, hz0, hz1, hz2⟩ := info_parts Tryz.info5
  have hs : Src Tryz.prog i.size 29 (.slice ao m c) m (news.map (Value.int .u8)) w := by rw [hz1]; exact src_bytes hrn hln
  have hold : (Builtin.firstCells i.size n (.slice (some x) n n)).run Tryz.prog w.drew = .ok (olds.map (Value.int .u8)).toArray w.drew := by
    refine run_firstCells_some (P := Tryz.prog) w.drew i.size n x n n (olds.map (Value.int .u8)) (by rw [hz1]; simp [hl]) ?_
    intro j v hv
    have := rd_cells hr j v hv
    exact this
  have hr' := run_append_grow_src (P := Tryz.prog) w 29 29 ty 5 i (.int .u8 0) Tryz.underlying29 hi hz0 (some x) n n (olds.map (Value.int .u8)) hold (.slice ao m c) m (news.map (Value.int .u8)) hs (by omega) (by omega) (growslice_fits (by omega) (by rw [hz2]; omega))
  have hge := grownCap_ge w (n + m) n 5
  have hle := grownCap_le_maxLen w (n + m) n 5 (by unfold maxLen; omega)
  rw [zeros_eq] at hr'
  have e1 : ((olds.map (Value.int .u8) ++ news.map (Value.int .u8)).toArray ++ ((List.replicate (grownCap w (n + m) n 5 - (n + m)) (0 : Int)).map (Value.int .u8)).toArray) = ((olds ++ news ++ List.replicate (grownCap w (n + m) n 5 - (n + m)) 0).map (Value.int .u8)).toArray := by simp
  rw [e1] at hr'
  have hlen : (olds ++ news ++ List.replicate (grownCap w (n + m) n 5 - (n + m)) (0 : Int)).length = grownCap w (n + m) n 5 := by
    simp only [List.length_append, hl, hln, List.length_replicate]; omega
  refine ⟨_, _, olds ++ news ++ List.replicate (grownCap w (n + m) n 5 - (n + m)) 0, hr', .inr ⟨w.heap.size, by rw [hlen], Nat.le_refl _, ⟨heap_alloc_new w.drew _, ?_⟩, by rw [hlen]; exact hge, by rw [hlen]; exact hle⟩, ?_, ⟨rfl, rfl, rfl, by simp, fun k hk => Below.heap_alloc w.drew _ k hk⟩⟩
  · intro z hz
    simp only [List.mem_append, List.mem_replicate] at hz
    rcases hz with (hz | hz) | ⟨_, rfl⟩
    · exact hr.2 z hz
    · exact hrn.2 z hz
    · omega
  · rw [List.take_append_of_le_length (by simp only [List.length_append, hl, hln]; omega)]
    exact List.take_of_length_le (by simp only [List.length_append, hl, hln]; omega)
theorem wpListIn_append_eq {F : Fence} {nF : Nat} {P : Program} (w : World) {ops : Array Oper} {rest : List Oper} {o : Oper} {a : Act} {Q : Exit → Act → World → Prop} (hgd : o.guard = none) (s x : Operand) (t1 t2 : TypeId)
    (ho : o.op = .call { callee := .builtin .append, args := #[s, x], argTypes := #[t1, t2] }) (v y v' : Value) (w' : World) (hs : a.eval s = v) (hx : a.eval x = y) (hr : (Builtin.append_ #[t1, t2] o.type #[v, y]).run P w = .ok v' w')
    (h : wpListIn F nF P ops Q rest (a.put o.dst v') w') : wpListIn F nF P ops Q (o :: rest) a w := by
  refine wpListIn_plain hgd fun K hK => ?_
  unfold Oper.wpIn
  refine ⟨by simp [Oper.about, ho, resolve, Target.leads, Sem.run_pure], ?_⟩
  rw [Oper.semAt_plain F _ _ (by rw [ho]; intro c hc'; cases hc')]
  simp [execOp, ho, resolve, invoke, builtin, hs, hx, hr, Result.andThen]
  exact hK _ _ h
end Go.Proofs.YtkjnbgekaifdfaaGreat
namespace Go.Proofs.YtkjnbgekaifdfaaGreat
open Go.ChangeShapes Go.WideShapes Go.ChangeAt Go.RowKit Go.Maps Go.Shelf
set_option linter.unusedVariables false
set_option linter.unusedSimpArgs false
attribute [local go_sem] Oper.semAt_some
theorem PlM.look {W : World} {mb : Nat} {pl : List (ByteArray × Nat)} (h : PlM W mb pl) (t : ByteArray) (ht : t.size ≤ 255) :
    (Instr.lookup 123 (.map (some mb)) (.string t) true).run Tryz.prog W = .ok (.tuple #[.int .i64 ((qfind pl t).getD 0 : Nat), .bool (qfind pl t).isSome]) W := by
  obtain ⟨M, h1, h2⟩ := h
  have hkey : keyOf Tryz.prog 9 (.string t) = some (.string t.data.toList) := Go.WideMaps.keyOf_string_mk Tryz.underlying9 (by unfold maxLen; omega)
  obtain ⟨v, ps, hrun, hv⟩ := h1.look_ok law9 Tryz.underlying123 (zero3 W) (zd := .lit (.int .i64 0)) (zp := []) (plainElem_int Tryz.underlying3 (by decide)) hkey
  obtain ⟨c, rfl, hc, _⟩ := plainElem_int_inv Tryz.underlying3 hv
  rw [hrun]
  cases hf : qfind pl t with
  | none =>
    have e := (h2 t).1 hf
    rw [e]
    have hat := atKey_of_not_has e (.lit (.int .i64 0))
    rw [hat] at hc
    have := congrArg Prod.fst hc
    simp only at this
    cases this
    rfl
  | some p =>
    obtain ⟨e, hat⟩ := (h2 t).2 p hf
    rw [e]
    rw [hat] at hc
    have := congrArg Prod.fst hc
    simp only at this
    cases this
    rfl
theorem new_rd2 (w : World) (y z : Int) (hy : 0 ≤ y ∧ y ≤ 255) (hz : 0 ≤ z ∧ z ≤ 255) : Rd (w.alloc (.cells #[.int .u8 y, .int .u8 z] 5)) (some ⟨w.heap.size, 0, none⟩) [y, z] := by
  refine ⟨.inr ⟨w.heap.size, 0, rfl, by simp, fun i hi => ?_⟩, by simp; omega⟩
  have : i = 0 ∨ i = 1 := by simp at hi; omega
  rcases this with rfl | rfl <;> simp [go_sem]
theorem Own.setOther {B : Nat} {w : World} {v : Value} {n : Nat} {ys : List Int} (h : Own B w v n ys) {j k : Nat} {cs : Array Value} {t : TypeId} {fr : Nat × Nat} (hj : w.heap[j]? = some (.cells cs t fr)) (ht : t ≠ 5) (u : Value) : Own B (w.setCell ⟨j, k, none⟩ u) v n ys :=
  h.keepAt (fun g e hl => (grown_set w j k u).block g hl (fun e2 => by
    obtain ⟨_, cs', e1⟩ := h.blk5 g e
    simp only [Option.some.injEq] at e2
    subst e2
    rw [hj] at e1; cases e1; exact ht rfl))
theorem Own.lower {B B' : Nat} {w : World} {v : Value} {n : Nat} {ys : List Int} (h : Own B w v n ys) (hB : B' ≤ B) : Own B' w v n ys := by
  rcases h with h | ⟨g, h1, h2, h3⟩
  · exact .inl h
  · exact .inr ⟨g, h1, Nat.le_trans hB h2, h3⟩
theorem iup_mem {n : Nat} : ∀ {k j : Nat}, j < k → k ≤ n → ∀ h : j < n, (⟨j, h⟩ : Ix n) ∈ iup n k
  | 0, _, h, _, _ => by omega
  | k + 1, j, hj, hk, h => by
    rw [iup_succ (by omega)]
    by_cases e : j = k
    · subst e; simp
    · exact List.mem_append_left _ (iup_mem (by omega) (by omega) h)
theorem own_from_own {n₀ B : Nat} {v : Value} {n : Nat} {ys : List Int} {A W : World} {row : Option Nat} (h : Own n₀ A v n ys) (hg : A.grownBy W row) (hr : ∀ r, row = some r → B ≤ r ∧ ∃ o : Obj, A.heap[r]? = some o ∧ o.isCells = false) : Own n₀ W v n ys :=
  h.keepAt (fun g e hl => hg.block g hl (fun e2 => by
    obtain ⟨_, cs, e1⟩ := h.blk5 g e
    obtain ⟨_, o, e3, e4⟩ := hr g e2.symm
    rw [e1] at e3; cases e3; cases e4))
/-- What shorten tells. -/
def ShPost (pl : List (ByteArray × Nat)) (ss : List ByteArray) (w : World) (e : Ending) (w' : World) : Prop :=
  ∃ a' n' c', e = .returned (.tuple #[.slice a' n' c', .int .i64 (qob pl ss : Nat)]) ∧ Hid (Rd w' a' (qshort pl ss) ∧ (qshort pl ss).length = n' ∧ (a' = none → c' = 0) ∧ Below w.heap.size w w')
set_option maxRecDepth 100000 in
set_option maxHeartbeats 4000000 in
theorem shorten_any (B g : Nat) (tx : List Int) (pl : List (ByteArray × Nat)) (a : Option Addr) (n c : Nat) (ss : List ByteArray) (w : World) (h : Wr B w g tx pl) (hk : nck ss = 0) (hP : ∀ k p, (k, p) ∈ pl → p < 16384) (hr : Rd w a (nby ss ++ [0])) (hn : (nby ss ++ [0]).length = n) (hnc : n ≤ c) (hc : c ≤ 9223372036854775807) :
    Calls Tryz.prog 123 #[.pointer (some ⟨g, 0, none⟩), .slice a n c] w (ShPost pl ss w) := by
  obtain ⟨v, ys, mb, h⟩ := h
  have hg := box_lt h.box
  have c2 : w.cell? ⟨g, 2, none⟩ = some (.map (some mb)) := box_cell h.box 2 _ rfl
  have hcv : ∀ W, Below w.heap.size w W → (convert 29 9 (.slice a n c)).run Tryz.prog W = .ok (.string (qkey ss)) W := fun W hW => conv_rd a n c _ W (hr.below hW) hn
  have hx : (convert 29 9 (.slice a n c)).run Tryz.prog ((((w.alloc (.cells #[.pointer (some ⟨g, 0, none⟩)] 91)).alloc (.cells #[.slice a n c] 29)).alloc (.cells #[.slice none 0 0] 29)).alloc (.cells #[.int .i64 0] 3)) = .ok (.string (qkey ss)) ((((w.alloc (.cells #[.pointer (some ⟨g, 0, none⟩)] 91)).alloc (.cells #[.slice a n c] 29)).alloc (.cells #[.slice none 0 0] 29)).alloc (.cells #[.int .i64 0] 3)) := hcv _ (((((Below.refl _ w).alloc (Nat.le_refl _) _).alloc (by simp) _).alloc (by simp; omega) _).alloc (by simp; omega) _)
  clear hcv
  have hlo := labs_of hk
  have hsz : (qkey ss).size = n := by rw [qkey_size, ← nby_len, ← hn]; simp
  have hn255 : n ≤ 255 := by rw [← hsz, qkey_size]; exact (nck_small hk).1
  have HR : Hid (Rd w a (nby ss ++ [0])) := hr
  have HM : Hid (PlM w mb pl) := h.map
  have hmb : mb < w.heap.size := by obtain ⟨es, cl, e⟩ := h.map.isMap; exact box_lt e
  have ha : ∃ x, a = some x := by
    cases a with
    | none => rcases hr.1 with h1 | ⟨b, o, h1, _⟩
              · simp at h1
              · cases h1
    | some x => exact ⟨x, rfl⟩
  obtain ⟨x, rfl⟩ := ha
  have HST : Hid (∀ (F : Fence) (m Bs : Nat) (W : World), F.fn 148 → F.round = none → 1 ≤ m → Boxed W Bs 9 (.string (qkey ss)) → SeqStopsK F m Tryz.prog 148 #[.pointer (some ⟨Bs, 0, none⟩)] (fun x : Ix ss.length => #[Value.int .i64 (offs ss x.1 : Nat)]) (KpS Bs) (fun ys => ys = iup ss.length ss.length) (fun pre => ∃ k, k ≤ ss.length ∧ pre = iup ss.length k) ss.length W) := fun F m Bs W h1 h2 h3 h4 => tails_stops F m h1 h2 h3 Bs ss hk W h4
  have HT : Hid (∀ k, (qkey ss).extract (offs ss k) (qkey ss).size = qkey (ss.drop k) ∧ (qkey (ss.drop k)).size ≤ 255) := fun k => ⟨qkey_tail ss hlo k, by rw [qkey_size]; have := nsz_drop ss k; have := (nck_small hk).1; omega⟩
  clear h hr
  have HS0 : Hid (∃ s, qkey ss = s) := ⟨_, rfl⟩
  obtain ⟨s, hS⟩ : ∃ s, qkey ss = s := ⟨_, rfl⟩
  rw [hS] at hx hsz HST HT
  have HS : Hid (qkey ss = s) := hS
  clear hS HS0
  refine (callsIn_wide (n := 3)).1 ?_
  refine callsIn_of_wp_marks Tryz.func123 rfl trivial ?_ rfl
  simp only [Tryz.ntmps123, List.size_toArray, List.length_cons, List.length_nil, Nat.reduceAdd, Nat.reduceSub, Array.replicate_succ, Array.replicate_zero, List.push_toArray, List.append_toArray, List.nil_append, List.cons_append]
  gi_wp2_with (refine ⟨trivial, ?_⟩; gi_at_call 134; refine (callsIn_wide.2 (tails_any _ _)).mono ?_; rintro e w' ⟨rfl, rfl⟩)
  have b0 := (((((Boxed.new w 91 (.pointer (some ⟨g, 0, none⟩))).alloc (.cells #[.slice (some x) n c] 29)).alloc (.cells #[.slice none 0 0] 29)).alloc (.cells #[.int .i64 0] 3)).alloc (.cells #[.string s] 9)).alloc (.cells #[.string s] 9)
  have b1 := ((((Boxed.new (w.alloc (.cells #[.pointer (some ⟨g, 0, none⟩)] 91)) 29 (.slice (some x) n c)).alloc (.cells #[.slice none 0 0] 29)).alloc (.cells #[.int .i64 0] 3)).alloc (.cells #[.string s] 9)).alloc (.cells #[.string s] 9)
  have b2 := (((Boxed.new ((w.alloc (.cells #[.pointer (some ⟨g, 0, none⟩)] 91)).alloc (.cells #[.slice (some x) n c] 29)) 29 (.slice none 0 0)).alloc (.cells #[.int .i64 0] 3)).alloc (.cells #[.string s] 9)).alloc (.cells #[.string s] 9)
  have b3 := ((Boxed.new (((w.alloc (.cells #[.pointer (some ⟨g, 0, none⟩)] 91)).alloc (.cells #[.slice (some x) n c] 29)).alloc (.cells #[.slice none 0 0] 29)) 3 (.int .i64 0)).alloc (.cells #[.string s] 9)).alloc (.cells #[.string s] 9)
  have b4 := (Boxed.new ((((w.alloc (.cells #[.pointer (some ⟨g, 0, none⟩)] 91)).alloc (.cells #[.slice (some x) n c] 29)).alloc (.cells #[.slice none 0 0] 29)).alloc (.cells #[.int .i64 0] 3)) 9 (.string s)).alloc (.cells #[.string s] 9)
  have b5 := Boxed.new (((((w.alloc (.cells #[.pointer (some ⟨g, 0, none⟩)] 91)).alloc (.cells #[.slice (some x) n c] 29)).alloc (.cells #[.slice none 0 0] 29)).alloc (.cells #[.int .i64 0] 3)).alloc (.cells #[.string s] 9)) 9 (.string s)
  simp only [World.size_alloc] at b1 b2 b3 b4 b5
  have hB0 : Below w.heap.size w ((((((w.alloc (.cells #[.pointer (some ⟨g, 0, none⟩)] 91)).alloc (.cells #[.slice (some x) n c] 29)).alloc (.cells #[.slice none 0 0] 29)).alloc (.cells #[.int .i64 0] 3)).alloc (.cells #[.string s] 9)).alloc (.cells #[.string s] 9)) := ((((((Below.refl _ w).alloc (Nat.le_refl _) _).alloc (by simp) _).alloc (by simp; omega) _).alloc (by simp; omega) _).alloc (by simp; omega) _).alloc (by simp; omega) _
  have hz0 : ((((((w.alloc (.cells #[.pointer (some ⟨g, 0, none⟩)] 91)).alloc (.cells #[.slice (some x) n c] 29)).alloc (.cells #[.slice none 0 0] 29)).alloc (.cells #[.int .i64 0] 3)).alloc (.cells #[.string s] 9)).alloc (.cells #[.string s] 9)).heap.size = w.heap.size + 6 := by simp
  clear hx
  generalize ((((((w.alloc (.cells #[.pointer (some ⟨g, 0, none⟩)] 91)).alloc (.cells #[.slice (some x) n c] 29)).alloc (.cells #[.slice none 0 0] 29)).alloc (.cells #[.int .i64 0] 3)).alloc (.cells #[.string s] 9)).alloc (.cells #[.string s] 9)) = W0 at *
  refine wpIn_rangeFunc_ownG rfl (by omega) (gf := 148) (lb := #[.pointer (some ⟨w.heap.size + 1 + 1 + 1 + 1 + 1, 0, none⟩)]) rfl trivial (enters_of Tryz.func148 (by kernel_rfl) rfl)
    (HST.out Fence.wide _ _ W0 trivial rfl (by omega) b5) kpS_t (kpS_b (w := W0)) (Below.refl _ _) (fun _ => rfl)
    (fun pre W => (((((Boxed W w.heap.size 91 (.pointer (some ⟨g, 0, none⟩)) ∧ Boxed W (w.heap.size + 1) 29 (.slice (some x) n c)) ∧ Boxed W (w.heap.size + 1 + 1) 29 (.slice none 0 0)) ∧ Boxed W (w.heap.size + 1 + 1 + 1) 3 (.int .i64 0)) ∧ Boxed W (w.heap.size + 1 + 1 + 1 + 1) 9 (.string s)) ∧ Hid (∀ y ∈ pre, qfind pl (qkey (ss.drop y.1)) = none)) ∧ Below w.heap.size w W)
    (fun cc pre W => (cc = .ret ∧ ∃ (q : List (Ix ss.length)) (y : Ix ss.length) (p : Nat) (ao : Option Addr) (zs : List Int), (Boxed W (w.heap.size + 1 + 1) 29 (.slice ao (offs ss y.1 + 2) zs.length) ∧ Boxed W (w.heap.size + 1 + 1 + 1) 3 (.int .i64 (offs ss y.1 : Nat))) ∧ Own w.heap.size W (.slice ao (offs ss y.1 + 2) zs.length) (offs ss y.1 + 2) zs ∧ Hid (pre = q ++ [y] ∧ (∀ z ∈ q, qfind pl (qkey (ss.drop z.1)) = none) ∧ qfind pl (qkey (ss.drop y.1)) = some p ∧ zs.take (offs ss y.1 + 2) = nby (ss.take y.1) ++ [192 + (p : Int) / 256, (p : Int) % 256])) ∧ Below w.heap.size w W)
    (OwnFrom.and (OwnFrom.and (OwnFrom.and (OwnFrom.and (OwnFrom.and (OwnFrom.and ((boxed_own _ _ _).from _) ((boxed_own _ _ _).from _)) ((boxed_own _ _ _).from _)) ((boxed_own _ _ _).from _)) ((boxed_own _ _ _).from _)) (ownFrom_pure _ _)) (ownFrom_below (Nat.le_refl _) (by omega)))
    (fun cc => OwnFrom.and (fun pre A W row hs hg hr => by
      obtain ⟨e1, q, y, p, ao, zs, ⟨e2, e3⟩, e4, e5⟩ := hs
      exact ⟨e1, q, y, p, ao, zs, ⟨((boxed_own (β := Unit) (w.heap.size + 1 + 1) 29 (fun _ => .slice ao (offs ss y.1 + 2) zs.length)).from _) () A W row e2 hg hr, ((boxed_own (β := Unit) (w.heap.size + 1 + 1 + 1) 3 (fun _ => .int .i64 (offs ss y.1 : Nat))).from _) () A W row e3 hg hr⟩, own_from_own e4 hg hr, e5⟩) (ownFrom_below (Nat.le_refl _) (by omega)))
    ⟨⟨⟨⟨⟨⟨b0, b1⟩, b2⟩, b3⟩, b4⟩, fun y hy => nomatch hy⟩, hB0⟩
    (fun y => { tmps := #[.pointer (some ⟨g, 0, none⟩), .slice (some x) n c, .pointer (some ⟨w.heap.size, 0, none⟩), .pointer (some ⟨w.heap.size + 1, 0, none⟩), .pointer (some ⟨w.heap.size + 1 + 1, 0, none⟩), .pointer (some ⟨w.heap.size + 1 + 1 + 1, 0, none⟩), .pointer (some ⟨w.heap.size + 1 + 1 + 1 + 1, 0, none⟩), .int .i64 (offs ss y.1 : Nat), undef, undef, undef, undef, .slice (some x) n c, .string s, .string s, .func (.func 148) #[] #[.pointer (some ⟨w.heap.size + 1 + 1 + 1 + 1 + 1, 0, none⟩)], .int .i64 (offs ss y.1 : Nat), undef, undef, undef, undef, undef, undef, undef, undef, undef, undef, undef, undef, undef, undef, undef, undef, undef, undef, undef, undef, undef, undef, undef, undef, undef, undef, undef, undef, undef, undef, undef], defers := [] }) ?assign ?body ?done ?stop
  case assign =>
    intro l y W K hK
    gi_wp2
    exact hK
  case body =>
    rintro l pre ⟨k, hkl⟩ W ⟨⟨⟨⟨⟨⟨hb0, hb1⟩, hb2⟩, hb3⟩, hb4⟩, HC⟩, hB⟩ _
    have d0 := hb0.cell
    have d1 := hb1.cell
    have d4 := hb4.cell
    have f2 := hb2.frozen
    have f3 := hb3.frozen
    have d2 := hb2.cell
    have d3 := hb3.cell
    have dg := cell_below hB hg c2
    have hgW : g < W.heap.size := Nat.lt_of_lt_of_le hg hB.size
    clear b0 b1 b2 b3 b4 b5
    obtain ⟨t, ht⟩ : ∃ t, qkey (ss.drop k) = t := ⟨_, rfl⟩
    have hext := (HT.out k).1
    have htz := (HT.out k).2
    rw [ht] at hext htz
    have HPl : Hid (PlM W mb pl) := HM.out.same (hB.block mb hmb)
    have hlk : ∀ k, (Instr.lookup 123 (.map (some mb)) (.string t) true).run Tryz.prog (W.drewN k) = .ok (.tuple #[.int .i64 ((qfind pl t).getD 0 : Nat), .bool (qfind pl t).isSome]) (W.drewN k) := fun k => (show PlM (W.drewN k) mb pl from HPl.out.same rfl).look t htz
    rw [hsz] at hext
    have HFT : Hid (qkey (ss.drop k) = t) := ht
    have ho : offs ss k + 1 ≤ n := by rw [← hsz, ← HS.out, qkey_size]; exact offs_le ss k
    obtain ⟨P, hPo⟩ : ∃ P, offs ss k = P := ⟨_, rfl⟩
    have HPO : Hid (offs ss k = P) := hPo
    rw [hPo] at ho hext ⊢
    have hP1 : (P : Int) ≤ (s.size : Int) := by omega
    have hP2 : (0 : Int) ≤ (P : Int) := by omega
    clear hPo ht
    cases hf : qfind pl t with
    | none =>
      rw [hf] at hlk
      simp only [Option.getD_none, Option.isSome_none] at hlk
      have HN : Hid (∀ y ∈ pre ++ [(⟨k, hkl⟩ : Ix ss.length)], qfind pl (qkey (ss.drop y.1)) = none) := by
        intro y hy
        rcases List.mem_append.1 hy with hy | hy
        · exact HC.out y hy
        · simp at hy; subst hy; rw [HFT.out]; exact hf
      clear hf
      gi_wp2
      refine region_round (F := Fence.wide) rfl (by rfl) (by kernel_rfl) (by kernel_rfl) ?_
      repeat (gi_big_quiet_step (fail))
      refine wpQuietIn_nil ?_
      intro _ hw'
      obtain ⟨nq, hw''⟩ := hw'
      subst hw''
      gi_wp2
      exact ⟨⟨Nat.le_refl _, fun k o _ h _ => h⟩, fun v h => h, ⟨⟨⟨⟨⟨hb0, hb1⟩, hb2⟩, hb3⟩, hb4⟩, HN⟩, ⟨hB.os, hB.tape, hB.output, hB.size, hB.block⟩⟩
    | some p =>
      rw [hf] at hlk
      simp only [Option.getD_some, Option.isSome_some] at hlk
      have hp := hP _ _ (qfind_mem hf)
      have HF : Hid (qfind pl t = some p) := hf
      have e1 : ((49152 : Int) + (p : Int)) / 256 = 192 + (p : Int) / 256 := by omega
      have e2 : ((49152 : Int) + (p : Int)) % 256 = (p : Int) % 256 := by omega
      have KP : Hid (∀ W, Calls Tryz.prog 70 #[.int .i64 (49152 + (p : Int))] W fun e w' => e = .returned (.tuple #[.slice (some ⟨W.heap.size, 0, none⟩) 2 2, .int .i64 0]) ∧ w' = W.alloc (.cells #[.int .u8 (192 + (p : Int) / 256), .int .u8 ((p : Int) % 256)] 5)) := fun W => by
        have := put16_yes (49152 + (p : Int)) W (by omega) (by omega)
        rw [e1, e2] at this
        exact this
      have HRT : Hid (∀ W, Below w.heap.size w W → Rd W (some x) (nby (ss.take k))) := fun W hW => by
        have h1 := (HR.out.below hW).cut (a' := some x) 0 P (by rw [hn]; omega) (fun _ b o e => by cases e; rfl)
        have h2 : ((nby ss ++ [0]).drop 0).take P = nby (ss.take k) := by
          rw [List.drop_zero, nby_split ss k, List.append_assoc, List.take_append_of_le_length (by rw [← HPO.out]; exact Nat.le_refl _), List.take_of_length_le (by rw [← HPO.out]; exact Nat.le_refl _)]
        rw [h2] at h1
        exact h1
      have hPc : (P : Int) ≤ (c : Int) := by omega
      have HKN : Hid ((nby (ss.take k)).length = P) := HPO.out
      have s1 : w.heap.size + 1 < W.heap.size := hb1.lt
      have s2 : w.heap.size + 1 + 1 < W.heap.size := hb2.lt
      have s3 : w.heap.size + 1 + 1 + 1 < W.heap.size := hb3.lt
      clear hf e1 e2 HST HT hP hlo hk
      gi_wp2
      refine region_round (F := Fence.wide) rfl (by rfl) (by kernel_rfl) (by kernel_rfl) ?_
      repeat (gi_big_quiet_step (fail))
      refine wpQuietIn_nil ?_
      intro _ hw'
      obtain ⟨nq, hw''⟩ := hw'
      subst hw''
      have hBn : Below w.heap.size w (W.drewN nq) := ⟨hB.os, hB.tape, hB.output, hB.size, hB.block⟩
      have HALL : Hid (∀ w2, w2 = (W.drewN nq).alloc (.cells #[.int .u8 (192 + (p : Int) / 256), .int .u8 ((p : Int) % 256)] 5) → w2.cell? ⟨w.heap.size + 1, 0, none⟩ = some (.slice (some x) n c) ∧ ∃ ao3 w3 y3, (Builtin.append_ #[29, 29] 29 #[.slice (some x) P P, .slice (some ⟨W.heap.size, 0, none⟩) 2 2]).run Tryz.prog w2 = .ok (.slice ao3 (P + 2) y3.length) w3 ∧ (Boxed w3 (w.heap.size + 1 + 1) 29 (.slice none 0 0) ∧ Boxed w3 (w.heap.size + 1 + 1 + 1) 3 (.int .i64 0)) ∧ Hid (Below w.heap.size w w3 ∧ Own w2.heap.size w3 (.slice ao3 (P + 2) y3.length) (P + 2) y3 ∧ y3.take (P + 2) = nby (ss.take k) ++ [192 + (p : Int) / 256, (p : Int) % 256] ∧ w.heap.size ≤ w2.heap.size ∧ KeepsOthers W w3)) := by
        rintro w2 rfl
        have q1 : Below w.heap.size w ((W.drewN nq).alloc (.cells #[.int .u8 (192 + (p : Int) / 256), .int .u8 ((p : Int) % 256)] 5)) := hBn.alloc hBn.size _
        have q2 := new_rd2 (W.drewN nq) (192 + (p : Int) / 256) ((p : Int) % 256) (by omega) (by omega)
        have q3 := (show Boxed (W.drewN nq) _ _ _ from hb2).alloc (.cells #[.int .u8 (192 + (p : Int) / 256), .int .u8 ((p : Int) % 256)] 5)
        have q4 := (show Boxed (W.drewN nq) _ _ _ from hb3).alloc (.cells #[.int .u8 (192 + (p : Int) / 256), .int .u8 ((p : Int) % 256)] 5)
        have q5 : KeepsOthers W ((W.drewN nq).alloc (.cells #[.int .u8 (192 + (p : Int) / 256), .int .u8 ((p : Int) % 256)] 5)) := (show KeepsOthers W (W.drewN nq) from ⟨Nat.le_refl _, fun k o h _ => h⟩).trans (KeepsOthers.alloc _ _)
        refine ⟨((show Boxed (W.drewN nq) _ _ _ from hb1).alloc _).cell, ?_⟩
        generalize (W.drewN nq).alloc (.cells #[.int .u8 (192 + (p : Int) / 256), .int .u8 ((p : Int) % 256)] 5) = w2 at *
        obtain ⟨v3, w3, y3, hrun, hO3, hT3, hB3⟩ := run_append_cut w2 29 x P (nby (ss.take k)) (HRT.out w2 q1) HKN.out (some ⟨W.heap.size, 0, none⟩) 2 2 [192 + (p : Int) / 256, (p : Int) % 256] q2 rfl (by omega) (by omega)
        obtain ⟨ao3, rfl, _⟩ := hO3.addr
        exact ⟨ao3, w3, y3, hrun, ⟨(hB3.block _ q3.lt).trans q3, (hB3.block _ q4.lt).trans q4⟩, q1.trans (hB3.mono q1.size), hO3, hT3, q1.size, q5.trans ⟨hB3.size, fun k o h _ => (hB3.block k (Array.getElem?_eq_some_iff.1 h).1).trans h⟩⟩
      clear hlk hext
      gi_wp2_with (first
        | (refine ⟨trivial, ?_⟩; gi_at_call 70; refine (CallsIn.inRound l (callsIn_wide.2 (KP.out _))).mono ?_; rintro e w2 ⟨rfl, hw2⟩; obtain ⟨D1, ao3, w3, y3, hrun, hg23, H3⟩ := HALL.out w2 hw2; clear hw2; have HG := Lib.hid hg23; have g2c := hg23.1.cell; have g2f := hg23.1.frozen; have g3c := hg23.2.cell; have g3f := hg23.2.frozen; have hl2 := hg23.1.lt; have hl3 := hg23.2.lt; clear hg23)
        | (gi_at_builtin; refine wpListIn_append_eq _ rfl _ _ 29 29 rfl _ _ _ _ rfl rfl hrun ?_))
      have bx2 : Boxed (w3.setCell ⟨w.heap.size + 1 + 1, 0, none⟩ (.slice ao3 (P + 2) y3.length)) (w.heap.size + 1 + 1) 29 (.slice ao3 (P + 2) y3.length) := HG.out.1.set _
      have bx3 : Boxed (w3.setCell ⟨w.heap.size + 1 + 1, 0, none⟩ (.slice ao3 (P + 2) y3.length)) (w.heap.size + 1 + 1 + 1) 3 (.int .i64 0) := HG.out.2.other (by omega) _
      have ow := ((H3.out.2.1.lower H3.out.2.2.2.1).setOther (k := 0) HG.out.1 (by decide) (.slice ao3 (P + 2) y3.length)).setOther (k := 0) bx3 (by decide) (.int .i64 (P : Int))
      have bl := (H3.out.1.setCell (p := ⟨w.heap.size + 1 + 1, 0, none⟩) (by simp; omega) (.slice ao3 (P + 2) y3.length)).setCell (p := ⟨w.heap.size + 1 + 1 + 1, 0, none⟩) (by simp; omega) (.int .i64 (P : Int))
      have HFIN : Hid (pre ++ [(⟨k, hkl⟩ : Ix ss.length)] = pre ++ [⟨k, hkl⟩] ∧ (∀ z ∈ pre, qfind pl (qkey (ss.drop z.1)) = none) ∧ qfind pl (qkey (ss.drop k)) = some p ∧ y3.take (P + 2) = nby (ss.take k) ++ [192 + (p : Int) / 256, (p : Int) % 256]) := ⟨rfl, HC.out, by rw [HFT.out]; exact HF.out, H3.out.2.2.1⟩
      refine ⟨((H3.out.2.2.2.2.trans (KeepsOthers.setCell _ _ _)).trans (KeepsOthers.setCell _ _ _)).from _, ⟨rfl, pre, ⟨k, hkl⟩, p, ao3, y3, ?_⟩, bl⟩
      rw [HPO.out]
      exact ⟨⟨bx2.other (by omega) _, bx3.set _⟩, ow, HFIN⟩
  case done =>
    rintro D xs W hD rfl ⟨⟨⟨⟨⟨⟨hb0, hb1⟩, hb2⟩, hb3⟩, hb4⟩, HC⟩, hB⟩ hK
    clear b0 b1 b2 b3 b4 b5 HST HT hB0
    have d1 := hb1.cell
    have d2 := hb2.cell
    have d3 := hb3.cell
    have f2 := hb2.frozen
    have f3 := hb3.frozen
    have s2 := hb2.lt
    have s3 := hb3.lt
    gi_wp2
    gi_region
    gi_wp2
    have hK2 : (((W.setCell ⟨w.heap.size + 1 + 1, 0, none⟩ (.slice (some x) n c)).setCell ⟨w.heap.size + 1 + 1 + 1, 0, none⟩ (.int .i64 (n : Int))).drew).heap[D]? = some (.deferred (some [])) := ((KeepsOthers.setCell W ⟨w.heap.size + 1 + 1, 0, none⟩ (.slice (some x) n c)).trans (KeepsOthers.setCell _ ⟨w.heap.size + 1 + 1 + 1, 0, none⟩ (.int .i64 (n : Int)))).same D _ hK rfl
    have hall : ∀ j, j < ss.length → qfind pl (qkey (ss.drop j)) = none := fun j hj => HC.out ⟨j, hj⟩ (iup_mem hj (Nat.le_refl _) hj)
    have hq := short_none pl ss hall
    have hqob : qob pl ss = n := by unfold qob; rw [hq.1, if_neg (by omega), ← hn, ← nby_len]; simp
    have bl : Below w.heap.size w (((W.setCell ⟨w.heap.size + 1 + 1, 0, none⟩ (.slice (some x) n c)).setCell ⟨w.heap.size + 1 + 1 + 1, 0, none⟩ (.int .i64 (n : Int))).drew) := by
      have := (hB.setCell (p := ⟨w.heap.size + 1 + 1, 0, none⟩) (by simp; omega) (.slice (some x) n c)).setCell (p := ⟨w.heap.size + 1 + 1 + 1, 0, none⟩) (by simp; omega) (.int .i64 (n : Int))
      exact ⟨this.os, this.tape, this.output, this.size, this.block⟩
    have k2 : Boxed (((W.setCell ⟨w.heap.size + 1 + 1, 0, none⟩ (.slice (some x) n c)).setCell ⟨w.heap.size + 1 + 1 + 1, 0, none⟩ (.int .i64 (n : Int))).drew) (w.heap.size + 1 + 1) 29 (.slice (some x) n c) := (hb2.set _).other (by omega) _
    have k3 : Boxed (((W.setCell ⟨w.heap.size + 1 + 1, 0, none⟩ (.slice (some x) n c)).setCell ⟨w.heap.size + 1 + 1 + 1, 0, none⟩ (.int .i64 (n : Int))).drew) (w.heap.size + 1 + 1 + 1) 3 (.int .i64 (n : Int)) := (hb3.other (by omega) _).set _
    generalize (((W.setCell ⟨w.heap.size + 1 + 1, 0, none⟩ (.slice (some x) n c)).setCell ⟨w.heap.size + 1 + 1 + 1, 0, none⟩ (.int .i64 (n : Int))).drew) = W5 at *
    have bl2 := bl.trans (belowK_b (w := w) (Nat.le_refl _) W5 D _ (.deferred none) (by omega) hK2 rfl rfl)
    have k2' := (k2.kept (grownBy_putObj' W5 D (.deferred none)) (by simp; omega)).cell
    have k3' := (k3.kept (grownBy_putObj' W5 D (.deferred none)) (by simp; omega)).cell
    refine ⟨by simp, .inl ⟨_, _, rfl, run_takeDeferred hK2, ?_⟩⟩
    refine ⟨.tuple #[.slice (some x) n c, .int .i64 (n : Int)], by simp [results, Tryz.results123, go_sem, k2', k3'], some x, n, c, by rw [hqob], ?_, ?_, by simp, bl2⟩
    · rw [hq.2]; exact HR.out.below bl2
    · rw [hq.2]; exact hn
  case stop =>
    rintro D cc pre W hD ⟨k, hk9, rfl⟩ ⟨⟨rfl, q, y, p, ao, zs, ⟨hb2, hb3⟩, hO, HC⟩, hB⟩ hK
    clear b0 b1 b2 b3 b4 b5 HST HT hB0
    have k2' := (hb2.kept (grownBy_putObj' W D (.deferred none)) (by simp; omega)).cell
    have k3' := (hb3.kept (grownBy_putObj' W D (.deferred none)) (by simp; omega)).cell
    have bl2 := hB.trans (belowK_b (w := w) (Nat.le_refl _) W D _ (.deferred none) (by omega) hK rfl rfl)
    obtain ⟨e1, e2, e3, e4⟩ := HC.out
    obtain ⟨j, rfl⟩ : ∃ j, k = j + 1 := ⟨k - 1, by cases k with | zero => simp [iup] at e1 | succ k => rfl⟩
    have hjl : j < ss.length := hk9
    rw [iup_succ hjl] at e1
    obtain ⟨rfl, ey⟩ := List.append_inj' e1 rfl
    have ey' : y = ⟨j, hjl⟩ := by simpa using ey.symm
    subst ey'
    have hq := short_at pl ss j p (by omega) (fun i hi => e2 ⟨i, by omega⟩ (iup_mem hi (by omega) (by omega))) e3
    have hqob : qob pl ss = offs ss j := by unfold qob; rw [hq.1, if_pos (by omega)]
    have hO2 := own_from_own (B := 0) hO (grownBy_putObj' W D (.deferred none)) (fun r e => by cases e; exact ⟨Nat.zero_le _, _, hK, rfl⟩)
    obtain ⟨ao', e5, hA⟩ := hO2.addr
    cases e5
    have hrd := hA.rdTake (offs ss j + 2)
    simp only at e4
    rw [e4, ← hq.2] at hrd
    have hle := hA.le
    have hqn : (qshort pl ss).length = offs ss j + 2 := by rw [hq.2]; simp [offs]
    gi_wp2
    refine ⟨by simp, .inl ⟨_, _, rfl, run_takeDeferred hK, ?_⟩⟩
    refine ⟨.tuple #[.slice ao (offs ss j + 2) zs.length, .int .i64 (offs ss j : Nat)], by simp [results, Tryz.results123, go_sem, k2', k3'], ao, _, _, by rw [hqob], hrd, hqn, hA.nil, bl2⟩
end Go.Proofs.YtkjnbgekaifdfaaGreat
namespace Go.Proofs.YtkjnbgekaifdfaaGreat
open Go.ChangeShapes Go.WideShapes Go.ChangeAt Go.RowKit Go.Shelf
set_option linter.unusedVariables false
set_option linter.unusedSimpArgs false
/-- Each waits for earlier ones alone; the last one waits for all; none is guarded. -/
def lastB (l : List Oper) (o : Oper) : Bool :=
  ((List.range l.length).all fun j => match l[j]? with
    | some x => x.guard.isNone && x.after.all (fun e => !Region.binds .any e || decide (e.on < j))
    | none => true) && o.guard.isNone && o.after.all (fun e => !Region.binds .any e || decide (e.on < l.length)) &&
  (List.range l.length).all (fun j => o.after.any (fun e => Region.binds .any e && e.on == j))
theorem lastB_spec {l : List Oper} {o : Oper} (h : lastB l o = true) :
    (∀ (j : Nat) (x : Oper), l[j]? = some x → x.guard = none ∧ ∀ e ∈ x.after, Region.binds .any e = true → e.on < j) ∧ o.guard = none ∧ (∀ e ∈ o.after, Region.binds .any e = true → e.on < l.length) ∧ (∀ j, j < l.length → ∃ e ∈ o.after, Region.binds .any e = true ∧ e.on = j) := by
  unfold lastB at h
  simp only [Bool.and_eq_true] at h
  obtain ⟨⟨⟨h1, h2⟩, h3⟩, h4⟩ := h
  refine ⟨fun j x hx => ?_, by simpa using h2, fun e he hb => ?_, fun j hj => ?_⟩
  · have hj : j < l.length := (List.getElem?_eq_some_iff.1 hx).1
    have := List.all_eq_true.1 h1 j (List.mem_range.2 hj)
    rw [hx] at this
    simp only [Bool.and_eq_true] at this
    refine ⟨by simpa using this.1, fun e he hb => ?_⟩
    have h5 := (Array.all_eq_true_iff_forall_mem.1 this.2) e he
    simpa [hb] using h5
  · have h5 := (Array.all_eq_true_iff_forall_mem.1 h3) e he
    simpa [hb] using h5
  · have := List.all_eq_true.1 h4 j (List.mem_range.2 hj)
    rw [Array.any_eq_true'] at this
    obtain ⟨e, he, h6⟩ := this
    simp only [Bool.and_eq_true, beq_iff_eq] at h6
    exact ⟨e, he, h6.1, h6.2⟩
theorem set_push_last {listed : Array Bool} {m : Nat} (hs : listed.size = m) : (listed.push false).setIfInBounds m true = listed.push true := by
  subst hs
  cases listed with
  | mk xs => simp [List.set_append]
theorem set_push_pre {listed : Array Bool} {i : Nat} (h : i < listed.size) : (listed.push false).setIfInBounds i true = (listed.setIfInBounds i true).push false := by
  cases listed with
  | mk xs =>
    have h' : i < xs.length := by simpa using h
    simp [List.set_append, h']
variable {l : List Oper} {o : Oper}
theorem at_pre {i : Nat} (hi : i < l.length) : (l ++ [o]).toArray[i]? = l.toArray[i]? := by simp [hi, List.getElem?_append_left]
theorem at_last : (l ++ [o]).toArray[l.length]? = some o := by simp
theorem push_getD {listed : Array Bool} {b d : Bool} {j m : Nat} (hs : listed.size = m) (hj : j < m) : (listed.push b).getD j d = listed.getD j d := by
  have h1 : j < listed.size := by omega
  have h2 : j < listed.size + 1 := by omega
  simp [Array.getD, h1, h2, Array.getElem_push_lt h1]
theorem push_last {listed : Array Bool} {b d : Bool} {m : Nat} (hs : listed.size = m) : (listed.push b).getD m d = b := by
  subst hs
  simp [Array.getD]
theorem ready_pre (hl : lastB l o = true) {listed : Array Bool} {b : Bool} (hs : listed.size = l.length) {i : Nat} (hi : i < l.length) : i ∈ Region.ready .any (l ++ [o]).toArray (listed.push b) ↔ i ∈ Region.ready .any l.toArray listed := by
  obtain ⟨h1, h2, h3, h4⟩ := lastB_spec hl
  rw [mem_ready, mem_ready, push_getD hs hi, at_pre hi]
  constructor
  · rintro ⟨e1, x, hx, e2⟩
    have hx' : l[i]? = some x := by simpa using hx
    exact ⟨e1, x, hx, fun e he hb => by have := e2 e he hb; rwa [push_getD hs (by have := (h1 i x hx').2 e he hb; omega)] at this⟩
  · rintro ⟨e1, x, hx, e2⟩
    have hx' : l[i]? = some x := by simpa using hx
    exact ⟨e1, x, hx, fun e he hb => by have := e2 e he hb; rwa [push_getD hs (by have := (h1 i x hx').2 e he hb; omega)]⟩
theorem ready_last (hl : lastB l o = true) {listed : Array Bool} (hs : listed.size = l.length) : l.length ∈ Region.ready .any (l ++ [o]).toArray (listed.push false) ↔ ∀ j, j < l.length → listed.getD j false = true := by
  obtain ⟨h1, h2, h3, h4⟩ := lastB_spec hl
  rw [mem_ready, push_last hs, at_last]
  constructor
  · rintro ⟨_, x, hx, e2⟩ j hj
    cases hx
    obtain ⟨e, he, hb, rfl⟩ := h4 j hj
    have := e2 e he hb
    rwa [push_getD hs hj] at this
  · intro h
    exact ⟨rfl, o, rfl, fun e he hb => by rw [push_getD hs (h3 e he hb)]; exact h _ (h3 e he hb)⟩
theorem all_listed (hl : lastB l o = true) {listed : Array Bool} (hs : listed.size = l.length) (h : Region.ready .any l.toArray listed = []) : ∀ j, j < l.length → listed.getD j false = true := by
  obtain ⟨h1, h2, h3, h4⟩ := lastB_spec hl
  intro j
  induction j using Nat.strongRecOn with
  | ind j ih =>
    intro hj
    by_cases e : listed.getD j false = true
    · exact e
    · have hjs : j < listed.size := by omega
      have e' : listed.getD j true = false := by simp [Array.getD, hjs] at e ⊢; exact e
      have : j ∈ Region.ready .any l.toArray listed := by
        rw [mem_ready]
        have hx : l[j]? = some l[j] := List.getElem?_eq_getElem hj
        exact ⟨e', l[j], by simp [hj], fun e he hb => ih _ ((h1 j _ hx).2 e he hb) (by have := (h1 j _ hx).2 e he hb; omega)⟩
      rw [h] at this
      cases this
theorem none_listed (hl : lastB l o = true) {listed : Array Bool} (hs : listed.size = l.length) (h : ∀ j, j < l.length → listed.getD j false = true) : Region.ready .any l.toArray listed = [] := by
  cases hr : Region.ready .any l.toArray listed with
  | nil => rfl
  | cons i r =>
    have hi : i ∈ Region.ready .any l.toArray listed := by rw [hr]; simp
    obtain ⟨e1, x, hx, _⟩ := mem_ready.1 hi
    have hil : i < l.length := by
      have : l[i]? = some x := by simpa using hx
      exact (List.getElem?_eq_some_iff.1 this).1
    have := h i hil
    have his : i < listed.size := by omega
    simp [Array.getD, his] at e1 this
    rw [e1] at this; cases this
theorem ready_cases (hl : lastB l o = true) {listed : Array Bool} {b : Bool} (hs : listed.size = l.length) {i : Nat} (hi : i ∈ Region.ready .any (l ++ [o]).toArray (listed.push b)) : (i < l.length ∧ i ∈ Region.ready .any l.toArray listed) ∨ (i = l.length ∧ b = false) := by
  obtain ⟨e1, x, hx, _⟩ := mem_ready.1 hi
  have hx' : (l ++ [o])[i]? = some x := by simpa using hx
  have hlt := (List.getElem?_eq_some_iff.1 hx').1
  simp at hlt
  by_cases e : i < l.length
  · exact .inl ⟨e, (ready_pre hl hs e).1 hi⟩
  · have : i = l.length := by omega
    subst this
    rw [push_last hs] at e1
    exact .inr ⟨rfl, e1⟩
theorem any_last {F : Fence} {n : Nat} {P : Program} {C : World → Prop} {Q1 : Act → Prop} {Q : Exit → Act → World → Prop} (hro : F.round = none) (hl : lastB l o = true)
    (hQ : ∀ a w, C w → Q1 a → o.wpIn F n P a w (fun a' w' => Q .normal a' w') Q) :
    ∀ (fuel : Nat) (listed : Array Bool) (a : Act) (w : World), listed.size = l.length → C w → wpAnyQIn F n P .any l.toArray C Q1 fuel listed a → wpAnyIn F n P .any (l ++ [o]).toArray Q (fuel + 1) (listed.push false) a w := by
  obtain ⟨h1, h2, h3, h4⟩ := lastB_spec hl
  have hend : ∀ (fuel : Nat) (listed : Array Bool) (a : Act) (w : World), listed.size = l.length → (∀ j, j < l.length → listed.getD j false = true) → Q .normal a w → wpAnyIn F n P .any (l ++ [o]).toArray Q fuel (listed.push true) a w := by
    intro fuel listed a w hs hall hq
    have hr : Region.ready .any (l ++ [o]).toArray (listed.push true) = [] := by
      cases hr : Region.ready .any (l ++ [o]).toArray (listed.push true) with
      | nil => rfl
      | cons i r =>
        have hi : i ∈ Region.ready .any (l ++ [o]).toArray (listed.push true) := by rw [hr]; simp
        rcases ready_cases hl hs hi with ⟨_, hi'⟩ | ⟨_, hb⟩
        · rw [none_listed hl hs hall] at hi'; cases hi'
        · cases hb
    cases fuel with
    | zero => exact ⟨hr, hq⟩
    | succ fuel => exact ⟨fun _ => hq, fun i hi => by rw [hr] at hi; cases hi⟩
  have hlast : ∀ (fuel : Nat) (listed : Array Bool) (a : Act) (w : World), listed.size = l.length → C w → Q1 a → (∀ j, j < l.length → listed.getD j false = true) → wpOpIn F n P (l ++ [o]).toArray Q l.length (wpAnyIn F n P .any (l ++ [o]).toArray Q fuel ((listed.push false).setIfInBounds l.length true)) a w := by
    intro fuel listed a w hs hC hq hall
    unfold wpOpIn
    rw [at_last]
    have hw : Region.wanted o (yielded (l ++ [o]).toArray a.tmps) = true := by simp [Region.wanted, h2]
    simp only [hw, if_true]
    refine Oper.wpIn_mono (fun a' w' h' => ?_) (hQ a w hC hq)
    have e : (listed.push false).setIfInBounds l.length true = listed.push true := set_push_last hs
    rw [e]
    exact hend fuel listed a' w' hs hall h'
  intro fuel
  induction fuel with
  | zero =>
    intro listed a w hs hC h
    have hall := all_listed hl hs h.1
    refine ⟨fun hr => ?_, fun i hi => ?_⟩
    · have := (ready_last hl hs).2 hall
      rw [hr] at this; cases this
    · rcases ready_cases hl hs hi with ⟨_, hi'⟩ | ⟨rfl, _⟩
      · rw [h.1] at hi'; cases hi'
      · exact hlast 0 listed a w hs hC h.2 hall
  | succ fuel ih =>
    intro listed a w hs hC h
    refine ⟨fun hr => ?_, fun i hi => ?_⟩
    · have hr' : Region.ready .any l.toArray listed = [] := by
        cases hr2 : Region.ready .any l.toArray listed with
        | nil => rfl
        | cons i r =>
          have hi : i ∈ Region.ready .any l.toArray listed := by rw [hr2]; simp
          obtain ⟨_, x, hx, _⟩ := mem_ready.1 hi
          have hil : i < l.length := by
            have : l[i]? = some x := by simpa using hx
            exact (List.getElem?_eq_some_iff.1 this).1
          have := (ready_pre (b := false) hl hs hil).2 hi
          rw [hr] at this; cases this
      have := (ready_last hl hs).2 (all_listed hl hs hr')
      rw [hr] at this; cases this
    · rcases ready_cases hl hs hi with ⟨hil, hi'⟩ | ⟨rfl, _⟩
      · have hx := h.2 i hi'
        unfold qOpIn at hx
        unfold wpOpIn
        rw [at_pre hil]
        have hxo : l.toArray[i]? = some l[i] := by simp [hil]
        rw [hxo] at hx ⊢
        simp only at hx ⊢
        have hgd := (h1 i l[i] (List.getElem?_eq_getElem hil)).1
        have hw1 : Region.wanted l[i] (yielded l.toArray a.tmps) = true := by simp [Region.wanted, hgd]
        have hw2 : Region.wanted l[i] (yielded (l ++ [o]).toArray a.tmps) = true := by simp [Region.wanted, hgd]
        simp only [hw1, if_true] at hx
        simp only [hw2, if_true]
        refine Oper.wpIn_of_quiet hro hC (fun a' w' hC' hK => ?_) hx.1 hx.2
        have e : (listed.push false).setIfInBounds i true = (listed.setIfInBounds i true).push false := set_push_pre (by omega)
        rw [e]
        exact ih (listed.setIfInBounds i true) a' w' (by simpa using hs) hC' hK
      · have hall := (ready_last hl hs).1 hi
        exact hlast (fuel + 1) listed a w hs hC (h.1 (none_listed hl hs hall)) hall
theorem region_round_last {F : Fence} {n r id : Nat} {P : Program} {Q : Exit → Act → World → Prop} {a : Act} {w : World} {l : List Oper} {o : Oper} (hro : F.round = none) (hl : lastB l o = true) (hd : (l ++ [o]).all noDefer = true) (hm : P.follows .mixedOrders = true) (hB : Region.lexB .any l.toArray = true)
    (h : wpQuietIn F n P l.toArray (fun w' => ∃ k, w' = w.drewN k) (fun a' => ∀ w', (∃ k, w' = w.drewN k) → o.wpIn F n P a' w' (fun a'' w'' => Q .normal a'' w'') Q) l a) : (Code.region id (l ++ [o]).toArray true).wpIn (F.inRound r) n P Q a w := by
  simp only [Region.lexB, Bool.and_eq_true] at hB
  refine wpIn_region_any hm (wpAny_round ?_ _ _ _ _ ?_)
  · intro i x ho
    have : (l ++ [o])[i]? = some x := by simpa using ho
    exact List.all_eq_true.1 hd x (List.mem_of_getElem? this)
  · have h1 := wpAnyQIn_lex (F := F) (n := n) (P := P) (C := fun w' => ∃ k, w' = w.drewN k) (md := .any) (ops := l.toArray) (Q := fun a' => ∀ w', (∃ k, w' = w.drewN k) → o.wpIn F n P a' w' (fun a'' w'' => Q .normal a'' w'') Q) hB.1 l 0 (Array.replicate l.toArray.size false) a (by simp) (by simpa using hB.2) h
    have h2 := any_last (F := F) (n := n) (P := P) (C := fun w' => ∃ k, w' = w.drewN k) (Q1 := fun a' => ∀ w', (∃ k, w' = w.drewN k) → o.wpIn F n P a' w' (fun a'' w'' => Q .normal a'' w'') Q) (Q := Q) hro hl (fun a w' hC hq => hq w' hC) l.length (Array.replicate l.length false) a { w with drawn := w.drawn + 1 } (by simp) ⟨1, rfl⟩ (by simpa using h1)
    have e : (Array.replicate l.length false).push false = Array.replicate (l ++ [o]).toArray.size false := by
      simp [Array.replicate_succ]
    rw [e] at h2
    simpa using h2
end Go.Proofs.YtkjnbgekaifdfaaGreat
namespace Go.Proofs.YtkjnbgekaifdfaaGreat
set_option linter.unusedVariables false
set_option linter.unusedSimpArgs false
theorem iup_mem0 {n : Nat} : ∀ {k j : Nat}, j < k → k ≤ n → ∀ h : j < n, (⟨j, h⟩ : Ix n) ∈ iup n k
  | 0, _, h, _, _ => by omega
  | k + 1, j, hj, hk, h => by
    rw [iup_succ (by omega)]
    by_cases e : j = k
    · subst e; simp
    · exact List.mem_append_left _ (iup_mem0 (by omega) (by omega) h)
/-- One tail more. -/
def kstep (start : Nat) (ss : List ByteArray) (P : List (ByteArray × Nat)) (x : Nat) : List (ByteArray × Nat) :=
  if (qfind P (qkey (ss.drop x))).isSome then P else (qkey (ss.drop x), start + offs ss x) :: P
def kf (pl : List (ByteArray × Nat)) (start : Nat) (ss : List ByteArray) (pre : List (Ix ss.length)) : List (ByteArray × Nat) := pre.foldl (fun P x => kstep start ss P x.1) pl
theorem kf_snoc (pl : List (ByteArray × Nat)) (start : Nat) (ss : List ByteArray) (pre : List (Ix ss.length)) (x : Ix ss.length) : kf pl start ss (pre ++ [x]) = kstep start ss (kf pl start ss pre) x.1 := by simp [kf]
theorem kf_len (pl : List (ByteArray × Nat)) (start : Nat) (ss : List ByteArray) (pre : List (Ix ss.length)) : (kf pl start ss pre).length ≤ pl.length + pre.length := by
  unfold kf
  induction pre generalizing pl with
  | nil => simp
  | cons x r ih =>
    rw [List.foldl_cons]
    refine Nat.le_trans (ih _) ?_
    unfold kstep
    split <;> simp <;> omega
theorem kf_iup (pl : List (ByteArray × Nat)) (start : Nat) (ss : List ByteArray) : ∀ k, k ≤ ss.length → (∀ j, j < k → start + offs ss j < 16384) → kf pl start ss (iup ss.length k) = qkeep pl start k ss
  | 0, _, _ => by simp [iup, kf, qkeep]
  | k + 1, hk, h => by
    have hkl : k < ss.length := hk
    rw [iup_succ hkl, kf_snoc, kf_iup pl start ss k (by omega) (fun j hj => h j (by omega)), keep_snoc pl start k ss hkl, if_neg (by have := h k (by omega); omega)]
    rfl
theorem keep_stop (pl : List (ByteArray × Nat)) (start : Nat) (ss : List ByteArray) (j : Nat) (h : 16384 ≤ start + offs ss j) : ∀ d, j + d ≤ ss.length → qkeep pl start (j + d) ss = qkeep pl start j ss
  | 0, _ => rfl
  | d + 1, hd => by
    have hlt : offs ss j ≤ offs ss (j + d) := by
      by_cases e : d = 0
      · subst e; exact Nat.le_refl _
      · exact Nat.le_of_lt (offs_lt (by omega) (by omega))
    rw [← Nat.add_assoc, keep_snoc pl start (j + d) ss (by omega), if_pos (by omega)]
    exact keep_stop pl start ss j h d (by omega)
/-- At the end: all tails, or up toq the first that doesn't count. -/
theorem kf_all (pl : List (ByteArray × Nat)) (start m own : Nat) (ss : List ByteArray) (hm : m ≤ ss.length) (hown : ∀ k, k < ss.length → (k < m ↔ offs ss k < own)) (h : ∀ z ∈ iup ss.length ss.length, offs ss z.1 < own ∧ start + offs ss z.1 < 16384) : kf pl start ss (iup ss.length ss.length) = qkeep pl start m ss := by
  have hz : ∀ j, j < ss.length → offs ss j < own ∧ start + offs ss j < 16384 := fun j hj => h ⟨j, hj⟩ (iup_mem0 hj (Nat.le_refl _) hj)
  have e : m = ss.length := by
    by_cases e : m < ss.length
    · have := (hown m e).2 (hz m e).1; omega
    · omega
  rw [kf_iup pl start ss _ (Nat.le_refl _) (fun j hj => (hz j hj).2), e]
theorem kf_part (pl : List (ByteArray × Nat)) (start m own : Nat) (ss : List ByteArray) (hm : m ≤ ss.length) (hown : ∀ k, k < ss.length → (k < m ↔ offs ss k < own)) (k : Nat) (hk : k < ss.length) (h : ∀ z ∈ iup ss.length k, offs ss z.1 < own ∧ start + offs ss z.1 < 16384) (hx : own ≤ offs ss k ∨ 16384 ≤ start + offs ss k) : kf pl start ss (iup ss.length k) = qkeep pl start m ss := by
  have hz : ∀ j, j < k → offs ss j < own ∧ start + offs ss j < 16384 := fun j hj => h ⟨j, by omega⟩ (iup_mem0 hj (by omega) (by omega))
  rw [kf_iup pl start ss k (by omega) (fun j hj => (hz j hj).2)]
  have hkm : k ≤ m := by
    by_cases e : m < k
    · have := (hown m (by omega)).2 (hz m e).1; omega
    · omega
  rcases hx with hx | hx
  · have : ¬ k < m := fun h' => by have := (hown k hk).1 h'; omega
    have e : k = m := by omega
    rw [e]
  · have := keep_stop pl start ss k hx (m - k) (by omega)
    rw [show k + (m - k) = m by omega] at this
    exact this.symm
end Go.Proofs.YtkjnbgekaifdfaaGreat
namespace Go.Proofs.YtkjnbgekaifdfaaGreat
open Go.ChangeShapes Go.WideShapes Go.ChangeAt Go.RowKit Go.Maps Go.Shelf
set_option linter.unusedVariables false
set_option linter.unusedSimpArgs false
attribute [local go_sem] Oper.semAt_some
theorem wpIn_mapUpdate_eq {F : Fence} {n : Nat} {P : Program} {o : Oper} {a : Act} {w w' : World} {K : Act → World → Prop} {Q : Exit → Act → World → Prop} (t : TypeId) (m x v : Operand) (hop : o.op = Op.mapUpdate t m x v) (mv xv vv : Value) (hm : a.eval m = mv) (hx : a.eval x = xv) (hv : a.eval v = vv)
    (hrun : (Instr.mapUpdate t mv xv vv).run P w = .ok () w') (hK : K (a.put o.dst undef) w') : o.wpIn F n P a w K Q := by
  unfold Oper.wpIn
  refine ⟨by simp [Oper.about, hop], ?_⟩
  rw [Oper.semAt_plain F _ _ (by rw [hop]; intro c hc'; cases hc')]
  simp [execOp, hop, hm, hx, hv, hrun, Result.andThen]
  exact hK
theorem PlM.store {W : World} {mb : Nat} {pl : List (ByteArray × Nat)} (h : PlM W mb pl) (t : ByteArray) (ht : t.size ≤ 255) (p : Nat) (hp : p ≤ 70000) (hf : qfind pl t = none) (hl : pl.length ≤ 200000) :
    ∃ W', (Instr.mapUpdate 123 (.map (some mb)) (.string t) (.int .i64 (p : Int))).run Tryz.prog W = .ok () W' ∧ PlM W' mb ((t, p) :: pl) ∧ W.grownBy W' (some mb) := by
  obtain ⟨M, h1, h2⟩ := h
  have hkey : keyOf Tryz.prog 9 (.string t) = some (.string t.data.toList) := Go.WideMaps.keyOf_string_mk Tryz.underlying9 (by unfold maxLen; omega)
  obtain ⟨W', hrun, h3, h4⟩ := h1.store law9 Tryz.underlying123 (by unfold maxLen; omega) hkey (plainElem_int (e := 3) (q := .i64) (a := (p : Int)) Tryz.underlying3 (WalkArith.wf_i64 (by omega)))
  exact ⟨W', hrun, PlM.put t p h1.isMap hf h2 h3, h4.grown⟩
theorem ownFrom_grown {β : Type} {w : World} {mb B : Nat} (hB : w.heap.size ≤ B) : OwnFrom (β := β) B (fun _ W => w.grownBy W (some mb)) := by
  intro s A W row hs hg hr
  exact ⟨hg.os.trans hs.os, hg.tape.trans hs.tape, hg.output.trans hs.output, Nat.le_trans hs.size hg.size, fun k hk hne => (hg.block k (Nat.lt_of_lt_of_le hk hs.size) (fun e => by have := (hr k e.symm).1; omega)).trans (hs.block k hk hne)⟩
theorem ownFrom_plm {β : Type} {mb B : Nat} {f : β → List (ByteArray × Nat)} (hB : mb < B) : OwnFrom (β := β) B (fun s W => PlM W mb (f s)) := by
  intro s A W row hs hg hr
  obtain ⟨es, c, e⟩ := hs.isMap
  exact hs.same (hg.block mb (box_lt e) (fun e => by have := (hr mb e.symm).1; omega))
theorem grown_all {w A W : World} {mb : Nat} (h : w.grownBy A (some mb)) (hg : A.grownBy W (some mb)) : w.grownBy W (some mb) :=
  ⟨hg.os.trans h.os, hg.tape.trans h.tape, hg.output.trans h.output, Nat.le_trans h.size hg.size, fun k hk hne => (hg.block k (Nat.lt_of_lt_of_le hk h.size) hne).trans (h.block k hk hne)⟩
theorem grown_far {w A W : World} {mb D : Nat} (h : w.grownBy A (some mb)) (hg : A.grownBy W (some D)) (hD : w.heap.size ≤ D) : w.grownBy W (some mb) :=
  ⟨hg.os.trans h.os, hg.tape.trans h.tape, hg.output.trans h.output, Nat.le_trans h.size hg.size, fun k hk hne => (hg.block k (Nat.lt_of_lt_of_le hk h.size) (fun e => by simp only [Option.some.injEq] at e; omega)).trans (h.block k hk hne)⟩
end Go.Proofs.YtkjnbgekaifdfaaGreat
namespace Go.Proofs.YtkjnbgekaifdfaaGreat
open Go.ChangeShapes Go.WideShapes Go.ChangeAt Go.RowKit Go.Maps
set_option linter.unusedVariables false
set_option linter.unusedSimpArgs false
set_option maxRecDepth 100000 in
set_option maxHeartbeats 1000000 in
theorem pbytes_bad (a : Option Addr) (n c : Nat) (ss : List ByteArray) (w : World) (h : Arg w a n ss) (hn : n ≤ 8796093021952) (hk : ¬ nck ss = 0) :
    Calls Tryz.prog 122 #[.slice a n c] w fun e w' => e = .returned (.tuple #[.slice none 0 0, .int .i64 (nck ss)]) ∧ w' = w := by
  have KC := Lib.hid (pcheckA_wide a n c ss w h.rd h.len (fun ho => by have := labs_nsz ho; have := h.len; omega) h.n63 h.z63)
  generalize nck ss = q at *
  have hq : (q != 0) = true := bne_iff_ne.2 hk
  clear h hk
  go_enter Tryz.func122, Tryz.ntmps122
  go_wp2_with fail
  refine KC.out.mono ?_
  rintro e w1 ⟨rfl, rfl⟩
  go_wp2
  go_ret2
  exact ⟨rfl, rfl⟩
/-- What Name does. -/
def wnm (tx : List Int) (pl : List (ByteArray × Nat)) (ss : List ByteArray) (back : Bool) : Int × List Int × List (ByteArray × Nat) :=
  if nck ss = 0 then
    if 65535 < tx.length + (qshort (if back then pl else []) ss).length then (3, tx, pl)
    else (0, tx ++ qshort (if back then pl else []) ss, qkeep pl tx.length (qown (if back then pl else []) ss) ss)
  else (nck ss, tx, pl)
theorem qob_le (pl : List (ByteArray × Nat)) (ss : List ByteArray) (h : nck ss = 0) : qob pl ss ≤ 255 := by
  have h1 := (nck_small h).1
  unfold qob
  split
  · have := offs_le ss (qown pl ss); omega
  · exact h1
end Go.Proofs.YtkjnbgekaifdfaaGreat
namespace Go.Proofs.YtkjnbgekaifdfaaGreat
open Go.ChangeShapes Go.WideShapes Go.ChangeAt Go.RowKit Go.Maps
set_option linter.unusedVariables false
set_option linter.unusedSimpArgs false
/-- The block in which a writer has its bytes. -/
def tbk (w : World) (g : Nat) : Option Nat := match w.cell? ⟨g, 1, none⟩ with | some v => v.ownBlock | none => none
theorem tbk_same {w w' : World} {g : Nat} (h : w'.heap[g]? = w.heap[g]?) : tbk w' g = tbk w g := by
  unfold tbk World.cell?
  simp only [h]
theorem tbk_box {w : World} {g : Nat} {p v q : Value} {t : TypeId} (h : w.heap[g]? = some (.cells #[p, v, q] t)) : tbk w g = v.ownBlock := by
  unfold tbk
  rw [box_cell h 1 v rfl]
/-- Rows of bytes that aren't a writer's stay. -/
structure Fx (g : Nat) (w w' : World) : Prop where
  size : w.heap.size ≤ w'.heap.size
  row : ∀ (j : Nat) (cs : Array Value) (fr : Nat × Nat), w.heap[j]? = some (Obj.cells cs 5 fr) → tbk w g ≠ some j → w'.heap[j]? = w.heap[j]?
  toq : tbk w' g = tbk w g ∨ ∃ k, w.heap.size ≤ k ∧ tbk w' g = some k
theorem Fx.refl (g : Nat) (w : World) : Fx g w w := ⟨Nat.le_refl _, fun _ _ _ _ _ => rfl, .inl rfl⟩
theorem Fx.trans {g : Nat} {a b c : World} (h : Fx g a b) (k : Fx g b c) : Fx g a c := by
  refine ⟨Nat.le_trans h.size k.size, fun j cs fr hj hn => ?_, ?_⟩
  · have e := h.row j cs fr hj hn
    refine (k.row j cs fr (e.trans hj) ?_).trans e
    rcases h.toq with e2 | ⟨m, hm, e2⟩
    · rw [e2]; exact hn
    · rw [e2]
      intro e3
      injection e3 with e3
      have := box_lt hj
      omega
  · rcases k.toq with e2 | ⟨m, hm, e2⟩
    · rw [e2]; exact h.toq
    · exact .inr ⟨m, Nat.le_trans h.size hm, e2⟩
theorem Fx.of {g : Nat} {w w' : World} (h : Below w.heap.size w w') (hg : g < w.heap.size) : Fx g w w' :=
  ⟨h.size, fun j cs fr hj _ => h.block j (box_lt hj), .inl (tbk_same (h.block g hg))⟩
theorem Fx.stored {g : Nat} {w1 w3 : World} {p v v' q p' q' : Value} (hb : w1.heap[g]? = some (.cells #[p, v, q] 125)) (hb' : w3.heap[g]? = some (.cells #[p', v', q'] 125)) (hs : w1.heap.size ≤ w3.heap.size)
    (hj : ∀ j, j < w1.heap.size → j ≠ g → v.ownBlock ≠ some j → w3.heap[j]? = w1.heap[j]?) (hl : v'.ownBlock = v.ownBlock ∨ v'.ownBlock = some w1.heap.size) : Fx g w1 w3 := by
  refine ⟨hs, fun j cs fr h hn => ?_, ?_⟩
  · rw [tbk_box hb] at hn
    refine hj j (box_lt h) ?_ hn
    rintro rfl
    rw [hb] at h
    cases h
  · rw [tbk_box hb, tbk_box hb']
    rcases hl with e | e
    · exact .inl e
    · exact .inr ⟨_, Nat.le_refl _, e⟩
def NmPostx (B g : Nat) (r : Int × List Int × List (ByteArray × Nat)) (w : World) (e : Ending) (w' : World) : Prop := e = .returned (.int .i64 r.1) ∧ Hid (Wr B w' g r.2.1 r.2.2 ∧ Fr B w w' ∧ Fx g w w')
theorem run_append_blk2 (w : World) (B : Nat) (ty : TypeId) (v : Value) (n : Nat) (zs : List Int) (hown : Own B w v n zs)
    (ao : Option Addr) (m c : Nat) (news : List Int) (hr : Rd w ao news) (hl : news.length = m) (hc : ao = none → c = 0) (hb : n + m ≤ 140737488355328) (hB : B ≤ w.heap.size) :
    ∃ v' w' zs', (Builtin.append_ #[29, 29] ty #[v, .slice ao m c]).run Tryz.prog w = .ok v' w' ∧ Own B w' v' (n + m) zs' ∧ zs'.take (n + m) = zs.take n ++ news ∧ w.grownBy w' v.ownBlock ∧ (v'.ownBlock = v.ownBlock ∨ v'.ownBlock = some w.heap.size) := by
  obtain ⟨i, hi, hz0, hz1, hz2⟩ := info_parts Tryz.info5
  cases ao with
  | none =>
    have hnews : news = [] := by
      rcases hr.1 with h1 | ⟨b, o, h, _⟩
      · exact h1
      · cases h
    subst hnews; subst hl
    rw [hc rfl]
    refine ⟨v, w, zs, ?_, hown, by simp, World.grownBy.refl _ _, .inl rfl⟩
    rcases hown with ⟨rfl, rfl, rfl⟩ | ⟨g, rfl, hBg, hblk, hn, hm⟩
    · simp [Builtin.append_, run_underlying Tryz.underlying29, sizeOf, typeInfo, hi, Builtin.lenOf, Builtin.firstCells]
    · simp [Builtin.append_, run_underlying Tryz.underlying29, sizeOf, typeInfo, hi, Builtin.lenOf, Builtin.firstCells, hn, storeCells]
  | some a =>
    have hcs := rd_cells hr
    have hml : n + m ≤ maxLen := by simp only [maxLen]; omega
    have hlm : (news.map (Value.int .u8)).length = m * i.size := by rw [hz1]; simp [hl]
    have grown : ∀ (old : Nat), old < n + m → ∀ (row : Option Nat), (n = 0 ∨ n ≤ zs.length) →
        ∃ zs' : List Int, (.cells (((zs.take n).map (Value.int .u8)).toArray ++ (news.map (Value.int .u8)).toArray ++ Builtin.zeroCells (Value.int .u8 0).cells (grownCap w (n + m) old 5 - (n + m))) 5 : Obj) = .cells (zs'.map (Value.int .u8)).toArray 5 (0, 0) ∧
        zs'.length = grownCap w (n + m) old 5 ∧ zs'.take (n + m) = zs.take n ++ news ∧ (∀ z ∈ zs', 0 ≤ z ∧ z ≤ 255) := by
      intro old ho row hn
      have hge := grownCap_ge w (n + m) old 5
      have hzb : ∀ z ∈ zs, 0 ≤ z ∧ z ≤ 255 := by
        rcases hown with ⟨_, _, rfl⟩ | ⟨g, _, _, hblk, _⟩
        · intro z hz; cases hz
        · exact hblk.2
      have htl : (zs.take n).length = n := by
        rcases hn with rfl | hn
        · simp
        · simp; omega
      refine ⟨zs.take n ++ news ++ List.replicate (grownCap w (n + m) old 5 - (n + m)) 0, ?_, ?_, ?_, ?_⟩
      · rw [zeros_eq]; simp
      · simp only [List.length_append, htl, hl, List.length_replicate]; omega
      · rw [List.take_append_of_le_length (by simp only [List.length_append, htl, hl]; omega)]
        exact List.take_of_length_le (by simp only [List.length_append, htl, hl]; omega)
      · intro z hz
        simp only [List.mem_append, List.mem_replicate] at hz
        rcases hz with (hz | hz) | ⟨_, rfl⟩
        · exact hzb z (List.mem_of_mem_take hz)
        · exact hr.2 z hz
        · omega
    have fresh : ∀ (old : Nat), old < n + m → ∀ zs' : List Int, zs'.length = grownCap w (n + m) old 5 → (∀ z ∈ zs', 0 ≤ z ∧ z ≤ 255) →
        Own B (w.drew.alloc (.cells (zs'.map (Value.int .u8)).toArray 5 (0, 0))) (.slice (some ⟨w.heap.size, 0, none⟩) (n + m) (grownCap w (n + m) old 5)) (n + m) zs' := by
      intro old ho zs' hzl hzb
      refine .inr ⟨w.heap.size, by rw [hzl], hB, ⟨heap_alloc_new w.drew _, hzb⟩, ?_, ?_⟩
      · rw [hzl]; exact grownCap_ge w (n + m) old 5
      · rw [hzl]; exact grownCap_le_maxLen w (n + m) old 5 hml
    rcases hown with ⟨rfl, rfl, rfl⟩ | ⟨g, rfl, hBg, hblk, hn, hm⟩
    · by_cases hm0 : m = 0
      · subst hm0
        have hnews : news = [] := List.eq_nil_of_length_eq_zero hl
        subst hnews
        refine ⟨.slice none 0 0, w, [], ?_, .inl ⟨rfl, rfl, rfl⟩, by simp, World.grownBy.refl _ _, .inl rfl⟩
        simp [Builtin.append_, run_underlying Tryz.underlying29, sizeOf, typeInfo, hi, Builtin.lenOf, Builtin.firstCells, loadCells, loadCellsFrom]
      · have hr' := run_append_nil (P := Tryz.prog) w 29 ty 5 i _ Tryz.underlying29 hi hz0 a m c (news.map (Value.int .u8)) hlm hcs (by omega) (by omega) (by rw [hz2]; omega)
        obtain ⟨zs', e1, e2, e3, e4⟩ := grown 0 (by omega) none (.inl rfl)
        have hf := fresh 0 (by omega) zs' e2 e4
        simp only [Nat.zero_add, List.take_nil, List.map_nil, List.nil_append, Array.empty_append, List.take_zero] at e1 e2 e3 hf ⊢
        rw [e1] at hr'
        exact ⟨_, _, zs', hr', hf, e3, ⟨rfl, rfl, rfl, by simp, fun k hk _ => Below.heap_alloc w.drew _ k hk⟩, .inr rfl⟩
    · by_cases hroom : n + m ≤ zs.length
      · have hr' := run_append_room (P := Tryz.prog) w 29 ty 5 i Tryz.underlying29 hi g n zs.length _ hblk.1 a m c (news.map (Value.int .u8)) hlm hcs (ints_oneCell _ _) hroom (by rw [hz1]; simp [hl]; omega)
        have e : (((zs.map (Value.int .u8)).toArray.toList.take (n * i.size)) ++ news.map (Value.int .u8) ++ (zs.map (Value.int .u8)).toArray.toList.drop (n * i.size + (news.map (Value.int .u8)).length)).toArray = ((zs.take n ++ news ++ zs.drop (n + m)).map (Value.int .u8)).toArray := by
          rw [hz1]; simp [hl]
        rw [e] at hr'
        have hlen : (zs.take n ++ news ++ zs.drop (n + m)).length = zs.length := by simp [hl]; omega
        refine ⟨_, _, zs.take n ++ news ++ zs.drop (n + m), hr', .inr ⟨g, by rw [hlen], hBg, ⟨setRow_heap w g _ _ 5 _ hblk.1, ?_⟩, by rw [hlen]; exact hroom, by rw [hlen]; exact hm⟩, ?_,
          ⟨rfl, rfl, rfl, by simp, fun k _ hk => setRow_other w g k _ (fun e => hk (by simp [Value.ownBlock, e]))⟩, .inl rfl⟩
        · intro z hz
          simp only [List.mem_append] at hz
          rcases hz with (hz | hz) | hz
          · exact hblk.2 z (List.mem_of_mem_take hz)
          · exact hr.2 z hz
          · exact hblk.2 z (List.mem_of_mem_drop hz)
        · rw [List.take_append_of_le_length (by simp [hl]; omega)]
          exact List.take_of_length_le (by simp [hl]; omega)
      · have holds : ∀ j u, ((zs.take n).map (Value.int .u8))[j]? = some u → w.cell? ((⟨g, 0, none⟩ : Addr).add j) = some u := rd_cells (hblk.rd n)
        have hr' := run_append_grow (P := Tryz.prog) w 29 ty 5 i _ Tryz.underlying29 hi hz0 ⟨g, 0, none⟩ n zs.length ((zs.take n).map (Value.int .u8)) (by rw [hz1]; simp; omega) holds a m c (news.map (Value.int .u8)) hlm hcs (by omega) (by simp only [maxLen] at hml; omega) (growslice_fits (by omega) (by rw [hz2]; omega))
        obtain ⟨zs', e1, e2, e3, e4⟩ := grown zs.length (by omega) none (.inr hn)
        have hf := fresh zs.length (by omega) zs' e2 e4
        rw [e1] at hr'
        exact ⟨_, _, zs', hr', hf, e3, ⟨rfl, rfl, rfl, by simp, fun k hk _ => Below.heap_alloc w.drew _ k hk⟩, .inr rfl⟩
theorem wpList_append_blk2 (w : World) {ops : Array Oper} {rest : List Oper} {o : Oper} {a : Act} {Q : Exit → Act → World → Prop} (hgd : o.guard = none) (s x : Operand)
    (ho : o.op = .call { callee := .builtin .append, args := #[s, x], argTypes := #[29, 29] }) (B : Nat) (v : Value) (n : Nat) (zs : List Int) (hs : a.eval s = v) (hown : Own B w v n zs)
    (ao : Option Addr) (m c : Nat) (news : List Int) (hx : a.eval x = .slice ao m c) (hr : Rd w ao news) (hl : news.length = m) (hc : ao = none → c = 0) (hb : n + m ≤ 140737488355328) (hB : B ≤ w.heap.size)
    (h : ∀ v' w' zs', Hid (Own B w' v' (n + m) zs') → Hid (zs'.take (n + m) = zs.take n ++ news) → w.grownBy w' v.ownBlock → (v'.ownBlock = v.ownBlock ∨ v'.ownBlock = some w.heap.size) → wpList Tryz.prog ops Q rest (a.put o.dst v') w') : wpList Tryz.prog ops Q (o :: rest) a w := by
  refine wpList_plain hgd fun K hK => ?_
  obtain ⟨v', w', zs', hrun, h2, h3, h4, h5⟩ := run_append_blk2 w B o.type v n zs hown ao m c news hr hl hc hb hB
  unfold Oper.wp execOp
  simp only [ho, resolve, invoke, builtin, Sem.run_bind, Sem.run_pure, Result.andThen_ok, List.map_toArray, List.map_cons, List.map_nil, hs, hx, hrun]
  exact hK _ _ (h v' w' zs' h2 h3 h4 h5)
/-- The map alone has changed: the writer with what is kept now. -/
theorem Wr1.keptx {B : Nat} {w w' : World} {g : Nat} {tx : List Int} {pl pl' : List (ByteArray × Nat)} {v : Value} {ys : List Int} {mb : Nat} (h : Wr1 B w g tx pl v ys mb) (hg : w.grownBy w' (some mb)) (hm : PlM w' mb pl') (hB : B ≤ w.heap.size) : Wr1 B w' g tx pl' v ys mb ∧ Fr B w w' ∧ Fx g w w' := by
  obtain ⟨es, c, e⟩ := h.map.isMap
  refine ⟨⟨?_, h.gB, h.mB, ?_, h.txt, hm⟩, ⟨?_, ?_⟩, ?_⟩
  · refine (hg.block g (box_lt h.box) (fun e2 => ?_)).trans h.box
    simp only [Option.some.injEq] at e2
    subst e2; rw [h.box] at e; cases e
  · refine h.own.keepAt (fun k hk hl => hg.block k hl (fun e2 => ?_))
    simp only [Option.some.injEq] at e2
    subst e2
    obtain ⟨_, cs, e1⟩ := h.own.blk5 _ hk
    rw [e1] at e; cases e
  · exact (Below.refl B w).grown hg hB (fun k e2 => by simp only [Option.some.injEq] at e2; subst e2; exact h.mB)
  · intro j cs t fr hj _ _
    refine hg.block j (box_lt hj) (fun e2 => ?_)
    simp only [Option.some.injEq] at e2
    subst e2; rw [hj] at e; cases e
  · have hbx : w'.heap[g]? = w.heap[g]? := hg.block g (box_lt h.box) (fun e2 => by
      simp only [Option.some.injEq] at e2
      subst e2; rw [h.box] at e; cases e)
    refine ⟨hg.size, fun j cs fr hj _ => hg.block j (box_lt hj) (fun e2 => ?_), .inl (tbk_same hbx)⟩
    simp only [Option.some.injEq] at e2
    subst e2; rw [hj] at e; cases e
set_option maxRecDepth 100000 in
set_option maxHeartbeats 1000000 in
theorem wbytes1x (B g : Nat) (tx : List Int) (pl : List (ByteArray × Nat)) (v : Value) (ys : List Int) (mb : Nat) (a : Option Addr) (m c : Nat) (zs : List Int) (w : World) (h : Wr1 B w g tx pl v ys mb) (hB : B ≤ w.heap.size) (ht : tx.length ≤ 65535) (hr : Rd w a zs) (hl : zs.length = m) (hc : a = none → c = 0) (hm : m ≤ 140737488355328) :
    Calls Tryz.prog 79 #[.pointer (some ⟨g, 0, none⟩), .slice a m c] w fun e w' => e = .returned (.int .i64 (if 65535 < tx.length + m then 3 else 0)) ∧ Hid (Wr B w' g (if 65535 < tx.length + m then tx else tx ++ zs) pl ∧ Fr B w w' ∧ ∀ j, j < w.heap.size → j ≠ g → v.ownBlock ≠ some j → w'.heap[j]? = w.heap[j]?) ∧ Hid (Fx g w w') := by
  have hg := box_lt h.box
  have c0 : w.cell? ⟨g, 0, none⟩ = some (.pointer (some ⟨g, 0, none⟩)) := box_cell h.box 0 _ rfl
  have c1 : w.cell? ⟨g, 1, none⟩ = some v := box_cell h.box 1 _ rfl
  have f1 := box_frozen h.box 1
  have H : Hid (Wr1 B w g tx pl v ys mb) := h
  have HR : Hid (Rd w a zs) := hr
  have HL : Hid (zs.length = m) := hl
  obtain ⟨ao, hv, _⟩ := h.own.addr
  obtain ⟨n, hn⟩ : ∃ n, tx.length = n := ⟨_, rfl⟩
  have HN : Hid (tx.length = n) := hn
  rw [hn] at hv ht ⊢
  have KM := Lib.hid (made_yes g w c0 hg)
  have HO : Hid (Own B w v n ys) := by have := h.own; rw [hn] at this; exact this
  subst hv
  clear h hr hl hn
  by_cases hbig : 65535 < n + m
  · rw [if_pos hbig, if_pos hbig]
    have hbig' : 65535 - (n : Int) < (m : Int) := by omega
    go_enter Tryz.func79, Tryz.ntmps79
    go_wp2_with fail
    refine KM.out.mono ?_
    rintro e w1 ⟨rfl, rfl⟩
    go_wp2_with fail
    go_ret
    exact ⟨rfl, ⟨⟨_, _, _, H.out⟩, Fr.refl _ _, fun _ _ _ _ => rfl⟩, Fx.refl _ _⟩
  · rw [if_neg hbig, if_neg hbig]
    have hbig' : (m : Int) ≤ 65535 - (n : Int) := by omega
    go_enter Tryz.func79, Tryz.ntmps79
    go_wp2_with fail
    refine KM.out.mono ?_
    rintro e w1 ⟨rfl, rfl⟩
    go_wp2_with (at_builtin; refine wpList_append_blk2 _ rfl _ _ rfl B _ n ys rfl HO.out a m c zs rfl HR.out HL.out hc (by omega) hB ?_; intro v' w2 ys' hO' hT' hG' hL'; have HST := Lib.hid (H.out.stored hG' (tx' := tx ++ zs) (v' := v') (ys' := ys') (by rw [List.length_append, HN.out, HL.out]; exact hO'.out) (by rw [List.length_append, HN.out, HL.out, hT'.out]; have := H.out.txt; rw [HN.out] at this; rw [this]) hB); have hob := H.out.old hG'; have hg2 := box_lt hob.1; have d1 : w2.cell? ⟨g, 1, none⟩ = some (.slice ao n ys.length) := box_cell hob.1 1 _ rfl; have e1 := box_frozen hob.1 1; obtain ⟨ao', rfl, _⟩ := hO'.out.addr; have HJ : Hid (∀ j, j < w1.heap.size → j ≠ g → (Value.slice ao n ys.length).ownBlock ≠ some j → (w2.setCell ⟨g, 1, none⟩ (.slice ao' (n + m) ys'.length)).heap[j]? = w1.heap[j]?) := (fun j hj hne hnb => ((grown_set w2 g 1 (.slice ao' (n + m) ys'.length)).block j (Nat.lt_of_lt_of_le hj hG'.size) (by simpa using hne)).trans (hG'.block j hj (fun e => hnb e.symm))); have HFX : Hid (Fx g w1 (w2.setCell ⟨g, 1, none⟩ (.slice ao' (n + m) ys'.length))) := (by have q1 := H.out.box; have q2 := HST.out.1.box; have q3 := Nat.le_trans hG'.size (grown_set w2 g 1 (.slice ao' (n + m) ys'.length)).size; have q4 := HJ.out; have q5 := Fx.stored q1 q2 q3 q4 hL'; exact q5); clear hG' hob hL')
    go_ret
    exact ⟨rfl, ⟨⟨_, _, _, HST.out.1⟩, HST.out.2, HJ.out⟩, HFX⟩
end Go.Proofs.YtkjnbgekaifdfaaGreat
namespace Go.Proofs.YtkjnbgekaifdfaaGreat
open Go.ChangeShapes Go.WideShapes Go.ChangeAt Go.RowKit
set_option linter.unusedVariables false
set_option linter.unusedSimpArgs false
/-- Questions that can be read. -/
structure QsRd (w : World) (s : Sl) (qs : List Qn) : Prop where
  rd : qs = [] ∨ ∃ b o, s.a = some ⟨b, o, none⟩ ∧ b < w.heap.size ∧ ∀ i (h : i < qs.length), ∃ x : QA, w.cell? ⟨b, o + i * 3, none⟩ = some (.slice x.s.a x.s.n x.s.c) ∧ w.cell? ⟨b, o + i * 3 + 1, none⟩ = some (.int .u16 (x.ty : Int)) ∧ w.cell? ⟨b, o + i * 3 + 2, none⟩ = some (.int .u16 (x.cl : Int)) ∧ QOk w x qs[i]
  len : qs.length = s.n
  cap : s.n ≤ s.c ∧ s.c ≤ 9223372036854775807
  nil : s.a = none → s.c = 0
theorem QsRd.below {w w' : World} {s : Sl} {qs : List Qn} (h : QsRd w s qs) (hb : Below w.heap.size w w') : QsRd w' s qs := by
  refine ⟨?_, h.len, h.cap, h.nil⟩
  rcases h.rd with h1 | ⟨b, o, h1, h2, h3⟩
  · exact .inl h1
  · refine .inr ⟨b, o, h1, Nat.lt_of_lt_of_le h2 hb.size, fun i hi => ?_⟩
    obtain ⟨x, e1, e2, e3, h5⟩ := h3 i hi
    exact ⟨x, (hb.cell (p := ⟨b, o + i * 3, none⟩) h2).trans e1, (hb.cell (p := ⟨b, o + i * 3 + 1, none⟩) h2).trans e2, (hb.cell (p := ⟨b, o + i * 3 + 2, none⟩) h2).trans e3, h5.below hb⟩
theorem QsRd.at {w : World} {s : Sl} {qs : List Qn} (h : QsRd w s qs) (i : Nat) (hi : i < qs.length) : ∃ b o, s.a = some ⟨b, o, none⟩ ∧ b < w.heap.size ∧ ∃ x : QA, w.cell? ⟨b, o + i * 3, none⟩ = some (.slice x.s.a x.s.n x.s.c) ∧ w.cell? ⟨b, o + i * 3 + 1, none⟩ = some (.int .u16 (x.ty : Int)) ∧ w.cell? ⟨b, o + i * 3 + 2, none⟩ = some (.int .u16 (x.cl : Int)) ∧ QOk w x qs[i] := by
  rcases h.rd with h1 | ⟨b, o, h1, h2, h3⟩
  · subst h1; simp at hi
  · exact ⟨b, o, h1, h2, h3 i hi⟩
end Go.Proofs.YtkjnbgekaifdfaaGreat
namespace Go.Proofs.YtkjnbgekaifdfaaGreat
open Go.ChangeShapes Go.WideShapes Go.ChangeAt Go.RowKit
set_option linter.unusedVariables false
set_option linter.unusedSimpArgs false
theorem put14 {w : World} {g : Nat} {u0 u1 u2 u3 u4 u5 u6 u7 u8 u9 u10 u11 u12 u13 : Value} {t : TypeId} (h : w.heap[g]? = some (.cells #[u0, u1, u2, u3, u4, u5, u6, u7, u8, u9, u10, u11, u12, u13] t)) (x0 x1 x2 x3 x4 x5 x6 x7 x8 x9 x10 x11 x12 x13 : Value) : ((((((((((((((w.setCell ⟨g, 0, none⟩ x0).setCell ⟨g, 1, none⟩ x1).setCell ⟨g, 2, none⟩ x2).setCell ⟨g, 3, none⟩ x3).setCell ⟨g, 4, none⟩ x4).setCell ⟨g, 5, none⟩ x5).setCell ⟨g, 6, none⟩ x6).setCell ⟨g, 7, none⟩ x7).setCell ⟨g, 8, none⟩ x8).setCell ⟨g, 9, none⟩ x9).setCell ⟨g, 10, none⟩ x10).setCell ⟨g, 11, none⟩ x11).setCell ⟨g, 12, none⟩ x12).setCell ⟨g, 13, none⟩ x13).heap[g]? = some (.cells #[x0, x1, x2, x3, x4, x5, x6, x7, x8, x9, x10, x11, x12, x13] t) := by
  have h0 : (w.setCell ⟨g, 0, none⟩ x0).heap[g]? = some (.cells #[x0, u1, u2, u3, u4, u5, u6, u7, u8, u9, u10, u11, u12, u13] t) := heap_set h 0 x0
  have h1 : ((w.setCell ⟨g, 0, none⟩ x0).setCell ⟨g, 1, none⟩ x1).heap[g]? = some (.cells #[x0, x1, u2, u3, u4, u5, u6, u7, u8, u9, u10, u11, u12, u13] t) := heap_set h0 1 x1
  have h2 : (((w.setCell ⟨g, 0, none⟩ x0).setCell ⟨g, 1, none⟩ x1).setCell ⟨g, 2, none⟩ x2).heap[g]? = some (.cells #[x0, x1, x2, u3, u4, u5, u6, u7, u8, u9, u10, u11, u12, u13] t) := heap_set h1 2 x2
  have h3 : ((((w.setCell ⟨g, 0, none⟩ x0).setCell ⟨g, 1, none⟩ x1).setCell ⟨g, 2, none⟩ x2).setCell ⟨g, 3, none⟩ x3).heap[g]? = some (.cells #[x0, x1, x2, x3, u4, u5, u6, u7, u8, u9, u10, u11, u12, u13] t) := heap_set h2 3 x3
  have h4 : (((((w.setCell ⟨g, 0, none⟩ x0).setCell ⟨g, 1, none⟩ x1).setCell ⟨g, 2, none⟩ x2).setCell ⟨g, 3, none⟩ x3).setCell ⟨g, 4, none⟩ x4).heap[g]? = some (.cells #[x0, x1, x2, x3, x4, u5, u6, u7, u8, u9, u10, u11, u12, u13] t) := heap_set h3 4 x4
  have h5 : ((((((w.setCell ⟨g, 0, none⟩ x0).setCell ⟨g, 1, none⟩ x1).setCell ⟨g, 2, none⟩ x2).setCell ⟨g, 3, none⟩ x3).setCell ⟨g, 4, none⟩ x4).setCell ⟨g, 5, none⟩ x5).heap[g]? = some (.cells #[x0, x1, x2, x3, x4, x5, u6, u7, u8, u9, u10, u11, u12, u13] t) := heap_set h4 5 x5
  have h6 : (((((((w.setCell ⟨g, 0, none⟩ x0).setCell ⟨g, 1, none⟩ x1).setCell ⟨g, 2, none⟩ x2).setCell ⟨g, 3, none⟩ x3).setCell ⟨g, 4, none⟩ x4).setCell ⟨g, 5, none⟩ x5).setCell ⟨g, 6, none⟩ x6).heap[g]? = some (.cells #[x0, x1, x2, x3, x4, x5, x6, u7, u8, u9, u10, u11, u12, u13] t) := heap_set h5 6 x6
  have h7 : ((((((((w.setCell ⟨g, 0, none⟩ x0).setCell ⟨g, 1, none⟩ x1).setCell ⟨g, 2, none⟩ x2).setCell ⟨g, 3, none⟩ x3).setCell ⟨g, 4, none⟩ x4).setCell ⟨g, 5, none⟩ x5).setCell ⟨g, 6, none⟩ x6).setCell ⟨g, 7, none⟩ x7).heap[g]? = some (.cells #[x0, x1, x2, x3, x4, x5, x6, x7, u8, u9, u10, u11, u12, u13] t) := heap_set h6 7 x7
  have h8 : (((((((((w.setCell ⟨g, 0, none⟩ x0).setCell ⟨g, 1, none⟩ x1).setCell ⟨g, 2, none⟩ x2).setCell ⟨g, 3, none⟩ x3).setCell ⟨g, 4, none⟩ x4).setCell ⟨g, 5, none⟩ x5).setCell ⟨g, 6, none⟩ x6).setCell ⟨g, 7, none⟩ x7).setCell ⟨g, 8, none⟩ x8).heap[g]? = some (.cells #[x0, x1, x2, x3, x4, x5, x6, x7, x8, u9, u10, u11, u12, u13] t) := heap_set h7 8 x8
  have h9 : ((((((((((w.setCell ⟨g, 0, none⟩ x0).setCell ⟨g, 1, none⟩ x1).setCell ⟨g, 2, none⟩ x2).setCell ⟨g, 3, none⟩ x3).setCell ⟨g, 4, none⟩ x4).setCell ⟨g, 5, none⟩ x5).setCell ⟨g, 6, none⟩ x6).setCell ⟨g, 7, none⟩ x7).setCell ⟨g, 8, none⟩ x8).setCell ⟨g, 9, none⟩ x9).heap[g]? = some (.cells #[x0, x1, x2, x3, x4, x5, x6, x7, x8, x9, u10, u11, u12, u13] t) := heap_set h8 9 x9
  have h10 : (((((((((((w.setCell ⟨g, 0, none⟩ x0).setCell ⟨g, 1, none⟩ x1).setCell ⟨g, 2, none⟩ x2).setCell ⟨g, 3, none⟩ x3).setCell ⟨g, 4, none⟩ x4).setCell ⟨g, 5, none⟩ x5).setCell ⟨g, 6, none⟩ x6).setCell ⟨g, 7, none⟩ x7).setCell ⟨g, 8, none⟩ x8).setCell ⟨g, 9, none⟩ x9).setCell ⟨g, 10, none⟩ x10).heap[g]? = some (.cells #[x0, x1, x2, x3, x4, x5, x6, x7, x8, x9, x10, u11, u12, u13] t) := heap_set h9 10 x10
  have h11 : ((((((((((((w.setCell ⟨g, 0, none⟩ x0).setCell ⟨g, 1, none⟩ x1).setCell ⟨g, 2, none⟩ x2).setCell ⟨g, 3, none⟩ x3).setCell ⟨g, 4, none⟩ x4).setCell ⟨g, 5, none⟩ x5).setCell ⟨g, 6, none⟩ x6).setCell ⟨g, 7, none⟩ x7).setCell ⟨g, 8, none⟩ x8).setCell ⟨g, 9, none⟩ x9).setCell ⟨g, 10, none⟩ x10).setCell ⟨g, 11, none⟩ x11).heap[g]? = some (.cells #[x0, x1, x2, x3, x4, x5, x6, x7, x8, x9, x10, x11, u12, u13] t) := heap_set h10 11 x11
  have h12 : (((((((((((((w.setCell ⟨g, 0, none⟩ x0).setCell ⟨g, 1, none⟩ x1).setCell ⟨g, 2, none⟩ x2).setCell ⟨g, 3, none⟩ x3).setCell ⟨g, 4, none⟩ x4).setCell ⟨g, 5, none⟩ x5).setCell ⟨g, 6, none⟩ x6).setCell ⟨g, 7, none⟩ x7).setCell ⟨g, 8, none⟩ x8).setCell ⟨g, 9, none⟩ x9).setCell ⟨g, 10, none⟩ x10).setCell ⟨g, 11, none⟩ x11).setCell ⟨g, 12, none⟩ x12).heap[g]? = some (.cells #[x0, x1, x2, x3, x4, x5, x6, x7, x8, x9, x10, x11, x12, u13] t) := heap_set h11 12 x12
  have h13 : ((((((((((((((w.setCell ⟨g, 0, none⟩ x0).setCell ⟨g, 1, none⟩ x1).setCell ⟨g, 2, none⟩ x2).setCell ⟨g, 3, none⟩ x3).setCell ⟨g, 4, none⟩ x4).setCell ⟨g, 5, none⟩ x5).setCell ⟨g, 6, none⟩ x6).setCell ⟨g, 7, none⟩ x7).setCell ⟨g, 8, none⟩ x8).setCell ⟨g, 9, none⟩ x9).setCell ⟨g, 10, none⟩ x10).setCell ⟨g, 11, none⟩ x11).setCell ⟨g, 12, none⟩ x12).setCell ⟨g, 13, none⟩ x13).heap[g]? = some (.cells #[x0, x1, x2, x3, x4, x5, x6, x7, x8, x9, x10, x11, x12, x13] t) := heap_set h12 13 x13
  exact h13
theorem put14_below (w : World) (g : Nat) (x0 x1 x2 x3 x4 x5 x6 x7 x8 x9 x10 x11 x12 x13 : Value) : Below g w ((((((((((((((w.setCell ⟨g, 0, none⟩ x0).setCell ⟨g, 1, none⟩ x1).setCell ⟨g, 2, none⟩ x2).setCell ⟨g, 3, none⟩ x3).setCell ⟨g, 4, none⟩ x4).setCell ⟨g, 5, none⟩ x5).setCell ⟨g, 6, none⟩ x6).setCell ⟨g, 7, none⟩ x7).setCell ⟨g, 8, none⟩ x8).setCell ⟨g, 9, none⟩ x9).setCell ⟨g, 10, none⟩ x10).setCell ⟨g, 11, none⟩ x11).setCell ⟨g, 12, none⟩ x12).setCell ⟨g, 13, none⟩ x13) :=
  ((((((((((((((Below.refl g w).setCell (p := ⟨g, 0, none⟩) (Nat.le_refl g) x0).setCell (p := ⟨g, 1, none⟩) (Nat.le_refl g) x1).setCell (p := ⟨g, 2, none⟩) (Nat.le_refl g) x2).setCell (p := ⟨g, 3, none⟩) (Nat.le_refl g) x3).setCell (p := ⟨g, 4, none⟩) (Nat.le_refl g) x4).setCell (p := ⟨g, 5, none⟩) (Nat.le_refl g) x5).setCell (p := ⟨g, 6, none⟩) (Nat.le_refl g) x6).setCell (p := ⟨g, 7, none⟩) (Nat.le_refl g) x7).setCell (p := ⟨g, 8, none⟩) (Nat.le_refl g) x8).setCell (p := ⟨g, 9, none⟩) (Nat.le_refl g) x9).setCell (p := ⟨g, 10, none⟩) (Nat.le_refl g) x10).setCell (p := ⟨g, 11, none⟩) (Nat.le_refl g) x11).setCell (p := ⟨g, 12, none⟩) (Nat.le_refl g) x12).setCell (p := ⟨g, 13, none⟩) (Nat.le_refl g) x13
theorem put14_other (w : World) (g : Nat) (x0 x1 x2 x3 x4 x5 x6 x7 x8 x9 x10 x11 x12 x13 : Value) (j : Nat) (h : j ≠ g) : ((((((((((((((w.setCell ⟨g, 0, none⟩ x0).setCell ⟨g, 1, none⟩ x1).setCell ⟨g, 2, none⟩ x2).setCell ⟨g, 3, none⟩ x3).setCell ⟨g, 4, none⟩ x4).setCell ⟨g, 5, none⟩ x5).setCell ⟨g, 6, none⟩ x6).setCell ⟨g, 7, none⟩ x7).setCell ⟨g, 8, none⟩ x8).setCell ⟨g, 9, none⟩ x9).setCell ⟨g, 10, none⟩ x10).setCell ⟨g, 11, none⟩ x11).setCell ⟨g, 12, none⟩ x12).setCell ⟨g, 13, none⟩ x13).heap[j]? = w.heap[j]? := by
  rw [Below.heap_setCell _ _ _ _ h, Below.heap_setCell _ _ _ _ h, Below.heap_setCell _ _ _ _ h, Below.heap_setCell _ _ _ _ h, Below.heap_setCell _ _ _ _ h, Below.heap_setCell _ _ _ _ h, Below.heap_setCell _ _ _ _ h, Below.heap_setCell _ _ _ _ h, Below.heap_setCell _ _ _ _ h, Below.heap_setCell _ _ _ _ h, Below.heap_setCell _ _ _ _ h, Below.heap_setCell _ _ _ _ h, Below.heap_setCell _ _ _ _ h, Below.heap_setCell _ _ _ _ h]
end Go.Proofs.YtkjnbgekaifdfaaGreat
namespace Go.Proofs.YtkjnbgekaifdfaaGreat
open Go.ChangeShapes Go.WideShapes Go.ChangeAt Go.RowKit
set_option linter.unusedVariables false
set_option linter.unusedSimpArgs false
def qCells (x : Sl) (r : Qn) : List Value := [.slice x.a x.n x.c, .int .u16 r.ty, .int .u16 r.cl]
def cellsQ (ps : List (Sl × Qn)) : List Value := ps.flatMap fun p => qCells p.1 p.2
theorem cellsQ_at (ps : List (Sl × Qn)) (k : Nat) (h : k < ps.length) (j : Nat) (hj : j < 3) : (cellsQ ps)[k * 3 + j]? = (qCells ps[k].1 ps[k].2)[j]? := by
  induction ps generalizing k with
  | nil => simp at h
  | cons p ws ih =>
    have hc : cellsQ (p :: ws) = qCells p.1 p.2 ++ cellsQ ws := by simp [cellsQ]
    have h8 : (qCells p.1 p.2).length = 3 := rfl
    rw [hc]
    cases k with
    | zero => rw [List.getElem?_append_left (by rw [h8]; omega)]; simp
    | succ k =>
      have := ih k (by simpa using h)
      rw [List.getElem?_append_right (by rw [h8]; omega), h8, show (k + 1) * 3 + j - 3 = k * 3 + j by omega, this]
      simp
theorem cellsQ_one (xs : List (Sl × Qn)) : ∀ u ∈ cellsQ xs, u.oneCell' = true := by
  intro u hu
  simp only [cellsQ, List.mem_flatMap] at hu
  obtain ⟨p, _, hu⟩ := hu
  simp [qCells] at hu
  rcases hu with rfl | rfl | rfl <;> rfl
def QRd (w : World) (x : Sl) (r : Qn) : Prop := TRd w x r.nm
theorem QRd.below {w w' : World} {x : Sl} {r : Qn} (h : QRd w x r) (hb : Below w.heap.size w w') : QRd w' x r := TRd.below h hb
def QOwx (B : Nat) (w : World) (x : Sl) (r : Qn) : Prop := Owx1 B w x r.nm
/-- A question that can be read as long as no other block than one is written. -/
def RfQ (B : Nat) (w : World) (g : Option Nat) (x : Sl) (r : Qn) : Prop :=
  ∀ w' : World, w.heap.size ≤ w'.heap.size → (∀ j, j < w.heap.size → B ≤ j → some j ≠ g → w'.heap[j]? = w.heap[j]?) → QRd w' x r
/-- A list of questions of one's own. -/
def OwQ (B : Nat) (w : World) (v : Value) (rs : List Qn) : Prop :=
  ∃ ps : List (Sl × Qn), ps.map (·.2) = rs ∧ w.ownsRow B 55 3 v ps.length (cellsQ ps) ∧ ∀ p ∈ ps, RfQ B w v.ownBlock p.1 p.2
end Go.Proofs.YtkjnbgekaifdfaaGreat
namespace Go.Proofs.YtkjnbgekaifdfaaGreat
open Go.ChangeShapes Go.WideShapes Go.ChangeAt Go.RowKit Go.Maps
set_option linter.unusedVariables false
set_option linter.unusedSimpArgs false
/-- What holds as long as the blocks from B up toq S stay as they are. -/
def Stb (B S : Nat) (P : World → Prop) (w : World) : Prop := S ≤ w.heap.size ∧ ∀ w' : World, S ≤ w'.heap.size → (∀ j, B ≤ j → j < S → w'.heap[j]? = w.heap[j]?) → P w'
theorem Stb.get {B S : Nat} {P : World → Prop} {w : World} (h : Stb B S P w) : P w := h.2 w h.1 (fun _ _ _ => rfl)
theorem Stb.go {B S : Nat} {P : World → Prop} {w w' : World} (h : Stb B S P w) (hs : w.heap.size ≤ w'.heap.size) (hb : ∀ j, B ≤ j → j < S → w'.heap[j]? = w.heap[j]?) : Stb B S P w' :=
  ⟨Nat.le_trans h.1 hs, fun w2 h1 h2 => h.2 w2 h1 (fun j e1 e2 => (h2 j e1 e2).trans (hb j e1 e2))⟩
theorem inf64 : ∃ i, Tryz.prog.info? 55 = some i ∧ i.zero = some (.agg #[.slice none 0 0, .int .u16 0, .int .u16 0]) ∧ i.size = 3 ∧ i.bytes = 32 := by
  have h : (Tryz.prog.info? 55).map (fun i => (i.zero, i.size, i.bytes)) = some (some (.agg #[.slice none 0 0, .int .u16 0, .int .u16 0]), 3, 32) := by kernel_rfl
  obtain ⟨i, h1, h2⟩ := Option.map_eq_some_iff.1 h
  simp only [Prod.mk.injEq] at h2
  exact ⟨i, h1, h2.1, h2.2.1, h2.2.2⟩
theorem inf61 : ∃ i, Tryz.prog.info? 62 = some i ∧ i.zero = some (.agg #[.slice none 0 0, .int .u16 0, .int .u16 0, .int .u32 0, .slice none 0 0, .slice none 0 0, .slice none 0 0, .slice none 0 0]) ∧ i.size = 8 ∧ i.bytes = 128 := by
  have h : (Tryz.prog.info? 62).map (fun i => (i.zero, i.size, i.bytes)) = some (some (.agg #[.slice none 0 0, .int .u16 0, .int .u16 0, .int .u32 0, .slice none 0 0, .slice none 0 0, .slice none 0 0, .slice none 0 0]), 8, 128) := by kernel_rfl
  obtain ⟨i, h1, h2⟩ := Option.map_eq_some_iff.1 h
  simp only [Prod.mk.injEq] at h2
  exact ⟨i, h1, h2.1, h2.2.1, h2.2.2⟩
end Go.Proofs.YtkjnbgekaifdfaaGreat
namespace Go.Proofs.YtkjnbgekaifdfaaGreat
open Go.ChangeShapes Go.WideShapes Go.ChangeAt Go.RowKit Go.Maps
set_option linter.unusedVariables false
set_option linter.unusedSimpArgs false
/-- The lists that are done. -/
def Dn (B : Nat) (v : Value) (qs : List Qn) (vs : Nat → Value) (ls : Nat → List Rec) (j : Nat) (W : World) : Prop := OwQ B W v qs ∧ ∀ i, i < j → OwR B W (vs i) (ls i)
end Go.Proofs.YtkjnbgekaifdfaaGreat
namespace Go.Proofs.YtkjnbgekaifdfaaGreat
open Go.ChangeShapes Go.WideShapes Go.ChangeAt Go.RowKit Go.Maps
set_option linter.unusedVariables false
set_option linter.unusedSimpArgs false
theorem three_at (w : World) (a b c : Obj) : Below w.heap.size w (((w.alloc a).alloc b).alloc c) ∧ (((w.alloc a).alloc b).alloc c).heap[w.heap.size]? = some a ∧ (((w.alloc a).alloc b).alloc c).heap[w.heap.size + 1]? = some b ∧ (((w.alloc a).alloc b).alloc c).heap[w.heap.size + 1 + 1]? = some c ∧ (((w.alloc a).alloc b).alloc c).heap.size = w.heap.size + 1 + 1 + 1 := by
  have s1 : (w.alloc a).heap.size = w.heap.size + 1 := by simp
  have s2 : ((w.alloc a).alloc b).heap.size = w.heap.size + 1 + 1 := by simp
  have n1 := heap_alloc_new w a
  have n2 := heap_alloc_new (w.alloc a) b
  have n3 := heap_alloc_new ((w.alloc a).alloc b) c
  rw [s1] at n2
  rw [s2] at n3
  refine ⟨(((Below.refl _ w).alloc (Nat.le_refl _) _).alloc (by omega) _).alloc (by omega) _, ?_, ?_, n3, by simp⟩
  · rw [Below.heap_alloc _ _ _ (by omega), Below.heap_alloc _ _ _ (by omega)]; exact n1
  · rw [Below.heap_alloc _ _ _ (by omega)]; exact n2
end Go.Proofs.YtkjnbgekaifdfaaGreat
namespace Go.Proofs.YtkjnbgekaifdfaaGreat
open Go.ChangeShapes Go.WideShapes Go.ChangeAt Go.RowKit Go.Maps Go.Shelf
set_option linter.unusedVariables false
set_option linter.unusedSimpArgs false
attribute [local go_sem] Oper.semAt_some
set_option maxRecDepth 100000 in
set_option maxHeartbeats 4000000 in
theorem keep_anyx (B g : Nat) (tx : List Int) (pl : List (ByteArray × Nat)) (ss : List ByteArray) (own start m : Nat) (w : World) (h : Wr B w g tx pl) (hk : nck ss = 0) (hs : start ≤ 65535) (ho : own ≤ 255) (hm : m ≤ ss.length) (hown : ∀ k, k < ss.length → (k < m ↔ offs ss k < own)) (hpl : pl.length ≤ 100000) (hB : B ≤ w.heap.size) :
    Calls Tryz.prog 124 #[.pointer (some ⟨g, 0, none⟩), .string (qkey ss), .int .i64 own, .int .i64 start] w fun e w' => e = .returned (.tuple #[]) ∧ Hid (Wr B w' g tx (qkeep pl start m ss) ∧ Fr B w w' ∧ Fx g w w') := by
  obtain ⟨v, ys, mb, h⟩ := h
  have hg := box_lt h.box
  have c2 : w.cell? ⟨g, 2, none⟩ = some (.map (some mb)) := box_cell h.box 2 _ rfl
  have hlo := labs_of hk
  have hmb : mb < w.heap.size := by obtain ⟨es, cl, e⟩ := h.map.isMap; exact box_lt e
  have HST : Hid (∀ (F : Fence) (m Bs : Nat) (W : World), F.fn 148 → F.round = none → 1 ≤ m → Boxed W Bs 9 (.string (qkey ss)) → SeqStopsK F m Tryz.prog 148 #[.pointer (some ⟨Bs, 0, none⟩)] (fun x : Ix ss.length => #[Value.int .i64 (offs ss x.1 : Nat)]) (KpS Bs) (fun ys => ys = iup ss.length ss.length) (fun pre => ∃ k, k ≤ ss.length ∧ pre = iup ss.length k) ss.length W) := fun F m Bs W h1 h2 h3 h4 => tails_stops F m h1 h2 h3 Bs ss hk W h4
  have HT : Hid (∀ k, (qkey ss).extract (offs ss k) (qkey ss).size = qkey (ss.drop k) ∧ (qkey (ss.drop k)).size ≤ 255) := fun k => ⟨qkey_tail ss hlo k, by rw [qkey_size]; have := nsz_drop ss k; have := (nck_small hk).1; omega⟩
  have hsz : (qkey ss).size ≤ 255 := by rw [qkey_size]; exact (nck_small hk).1
  have HOL : Hid (∀ k, offs ss k + 1 ≤ (qkey ss).size) := fun k => by rw [qkey_size]; exact offs_le ss k
  obtain ⟨s, hS⟩ : ∃ s, qkey ss = s := ⟨_, rfl⟩
  rw [hS] at hsz HST HT HOL ⊢
  have HS : Hid (qkey ss = s) := hS
  have HW : Hid (Wr1 B w g tx pl v ys mb) := h
  clear hS h
  refine (callsIn_wide (n := 3)).1 ?_
  refine callsIn_of_wp_marks Tryz.func124 rfl trivial ?_ rfl
  simp only [Tryz.ntmps124, List.size_toArray, List.length_cons, List.length_nil, Nat.reduceAdd, Nat.reduceSub, Array.replicate_succ, Array.replicate_zero, List.push_toArray, List.append_toArray, List.nil_append, List.cons_append]
  gi_wp2_with (refine ⟨trivial, ?_⟩; gi_at_call 134; refine (callsIn_wide.2 (tails_any _ _)).mono ?_; rintro e w' ⟨rfl, rfl⟩)
  have b0 := ((((Boxed.new w 91 (.pointer (some ⟨g, 0, none⟩))).alloc (.cells #[.string s] 9)).alloc (.cells #[.int .i64 (own : Int)] 3)).alloc (.cells #[.int .i64 (start : Int)] 3)).alloc (.cells #[.string s] 9)
  have b1 := (((Boxed.new (w.alloc (.cells #[.pointer (some ⟨g, 0, none⟩)] 91)) 9 (.string s)).alloc (.cells #[.int .i64 (own : Int)] 3)).alloc (.cells #[.int .i64 (start : Int)] 3)).alloc (.cells #[.string s] 9)
  have b2 := ((Boxed.new ((w.alloc (.cells #[.pointer (some ⟨g, 0, none⟩)] 91)).alloc (.cells #[.string s] 9)) 3 (.int .i64 (own : Int))).alloc (.cells #[.int .i64 (start : Int)] 3)).alloc (.cells #[.string s] 9)
  have b3 := (Boxed.new (((w.alloc (.cells #[.pointer (some ⟨g, 0, none⟩)] 91)).alloc (.cells #[.string s] 9)).alloc (.cells #[.int .i64 (own : Int)] 3)) 3 (.int .i64 (start : Int))).alloc (.cells #[.string s] 9)
  have b4 := Boxed.new ((((w.alloc (.cells #[.pointer (some ⟨g, 0, none⟩)] 91)).alloc (.cells #[.string s] 9)).alloc (.cells #[.int .i64 (own : Int)] 3)).alloc (.cells #[.int .i64 (start : Int)] 3)) 9 (.string s)
  simp only [World.size_alloc] at b1 b2 b3 b4
  have hB0 : Below w.heap.size w (((((w.alloc (.cells #[.pointer (some ⟨g, 0, none⟩)] 91)).alloc (.cells #[.string s] 9)).alloc (.cells #[.int .i64 (own : Int)] 3)).alloc (.cells #[.int .i64 (start : Int)] 3)).alloc (.cells #[.string s] 9)) := (((((Below.refl _ w).alloc (Nat.le_refl _) _).alloc (by simp) _).alloc (by simp; omega) _).alloc (by simp; omega) _).alloc (by simp; omega) _
  have hz0 : (((((w.alloc (.cells #[.pointer (some ⟨g, 0, none⟩)] 91)).alloc (.cells #[.string s] 9)).alloc (.cells #[.int .i64 (own : Int)] 3)).alloc (.cells #[.int .i64 (start : Int)] 3)).alloc (.cells #[.string s] 9)).heap.size = w.heap.size + 5 := by simp
  generalize (((((w.alloc (.cells #[.pointer (some ⟨g, 0, none⟩)] 91)).alloc (.cells #[.string s] 9)).alloc (.cells #[.int .i64 (own : Int)] 3)).alloc (.cells #[.int .i64 (start : Int)] 3)).alloc (.cells #[.string s] 9)) = W0 at *
  have hG0 : w.grownBy W0 (some mb) := ⟨hB0.os, hB0.tape, hB0.output, hB0.size, fun k hk _ => hB0.block k hk⟩
  have hP0 : PlM W0 mb pl := HW.out.map.same (hB0.block mb hmb)
  refine wpIn_rangeFunc_ownG rfl (by omega) (gf := 148) (lb := #[.pointer (some ⟨w.heap.size + 1 + 1 + 1 + 1, 0, none⟩)]) rfl trivial (enters_of Tryz.func148 (by kernel_rfl) rfl)
    (HST.out Fence.wide _ _ W0 trivial rfl (by omega) b4) kpS_t (kpS_b (w := W0)) (Below.refl _ _) (fun _ => rfl)
    (fun pre W => (((((Boxed W w.heap.size 91 (.pointer (some ⟨g, 0, none⟩)) ∧ Boxed W (w.heap.size + 1) 9 (.string s)) ∧ Boxed W (w.heap.size + 1 + 1) 3 (.int .i64 (own : Int))) ∧ Boxed W (w.heap.size + 1 + 1 + 1) 3 (.int .i64 (start : Int))) ∧ Hid (∀ z ∈ pre, offs ss z.1 < own ∧ start + offs ss z.1 < 16384)) ∧ PlM W mb (kf pl start ss pre)) ∧ w.grownBy W (some mb))
    (fun cc pre W => ((cc = .exit 0 ∧ Hid (∃ (q : List (Ix ss.length)) (y : Ix ss.length), pre = q ++ [y] ∧ (∀ z ∈ q, offs ss z.1 < own ∧ start + offs ss z.1 < 16384) ∧ (own ≤ offs ss y.1 ∨ 16384 ≤ start + offs ss y.1))) ∧ PlM W mb (kf pl start ss pre.dropLast)) ∧ w.grownBy W (some mb))
    (OwnFrom.and (OwnFrom.and (OwnFrom.and (OwnFrom.and (OwnFrom.and (OwnFrom.and ((boxed_own _ _ _).from _) ((boxed_own _ _ _).from _)) ((boxed_own _ _ _).from _)) ((boxed_own _ _ _).from _)) (ownFrom_pure _ _)) (ownFrom_plm (by omega))) (ownFrom_grown (by omega)))
    (fun cc => OwnFrom.and (OwnFrom.and (ownFrom_pure _ _) (ownFrom_plm (by omega))) (ownFrom_grown (by omega)))
    ⟨⟨⟨⟨⟨⟨b0, b1⟩, b2⟩, b3⟩, fun y hy => nomatch hy⟩, hP0⟩, hG0⟩
    (fun y => { tmps := #[.pointer (some ⟨g, 0, none⟩), .string s, .int .i64 (own : Int), .int .i64 (start : Int), .pointer (some ⟨w.heap.size, 0, none⟩), .pointer (some ⟨w.heap.size + 1, 0, none⟩), .pointer (some ⟨w.heap.size + 1 + 1, 0, none⟩), .pointer (some ⟨w.heap.size + 1 + 1 + 1, 0, none⟩), .int .i64 (offs ss y.1 : Nat), undef, undef, .string s, .func (.func 148) #[] #[.pointer (some ⟨w.heap.size + 1 + 1 + 1 + 1, 0, none⟩)], .int .i64 (offs ss y.1 : Nat), undef, undef, undef, undef, undef, undef, undef, undef, undef, undef, undef, undef, undef, undef, undef, undef, undef, undef, undef, undef, undef, undef, undef, undef, undef, undef, undef, undef, undef, undef, undef, undef], defers := [] }) ?assign ?body ?done ?stop
  case assign =>
    intro l y W K hK
    gi_wp2
    exact hK
  case body =>
    rintro l pre ⟨k, hkl⟩ W ⟨⟨⟨⟨⟨⟨hb0, hb1⟩, hb2⟩, hb3⟩, HC⟩, hPl⟩, hGr⟩ hlen
    have d0 := hb0.cell
    have d1 := hb1.cell
    have d2 := hb2.cell
    have d3 := hb3.cell
    clear b0 b1 b2 b3 b4
    have hgm : g ≠ mb := by
      rintro rfl
      obtain ⟨es, c, e⟩ := HW.out.map.isMap
      rw [HW.out.box] at e; cases e
    have dg : W.cell? ⟨g, 2, none⟩ = some (.map (some mb)) := hGr.cell c2 (by simpa using hgm)
    have hgW : g < W.heap.size := Nat.lt_of_lt_of_le hg hGr.size
    obtain ⟨t, ht⟩ : ∃ t, qkey (ss.drop k) = t := ⟨_, rfl⟩
    have hext := (HT.out k).1
    have htz := (HT.out k).2
    have hol := HOL.out k
    rw [ht] at hext htz
    have HFT : Hid (qkey (ss.drop k) = t) := ht
    have HPl : Hid (PlM W mb (kf pl start ss pre)) := hPl
    have HLN : Hid ((kf pl start ss pre).length ≤ 100255) := by
      have h1 := kf_len pl start ss pre
      have h2 := nck_len hk
      show _ ≤ _; omega
    have HKS : Hid (kf pl start ss (pre ++ [⟨k, hkl⟩]) = if (qfind (kf pl start ss pre) t).isSome then kf pl start ss pre else (t, start + offs ss k) :: kf pl start ss pre) := (show _ = _ by rw [kf_snoc, kstep, ht])
    obtain ⟨P, hPo⟩ : ∃ P, offs ss k = P := ⟨_, rfl⟩
    have HPO : Hid (offs ss k = P) := hPo
    rw [hPo] at hol hext HKS ⊢
    have hP1 : (P : Int) ≤ (s.size : Int) := by omega
    have hP2 : (0 : Int) ≤ (P : Int) := by omega
    have HGr : Hid (w.grownBy W (some mb)) := hGr
    have HBx : Hid (((Boxed W w.heap.size 91 (.pointer (some ⟨g, 0, none⟩)) ∧ Boxed W (w.heap.size + 1) 9 (.string s)) ∧ Boxed W (w.heap.size + 1 + 1) 3 (.int .i64 (own : Int))) ∧ Boxed W (w.heap.size + 1 + 1 + 1) 3 (.int .i64 (start : Int))) := ⟨⟨⟨hb0, hb1⟩, hb2⟩, hb3⟩
    clear hPo ht hPl hGr hb0 hb1 hb2 hb3 HST HT HOL hB0 hG0 hP0
    by_cases hbr : own ≤ P ∨ 16384 ≤ start + P
    · have HX : Hid (∃ (q : List (Ix ss.length)) (y : Ix ss.length), pre ++ [⟨k, hkl⟩] = q ++ [y] ∧ (∀ z ∈ q, offs ss z.1 < own ∧ start + offs ss z.1 < 16384) ∧ (own ≤ offs ss y.1 ∨ 16384 ≤ start + offs ss y.1)) := ⟨pre, ⟨k, hkl⟩, rfl, HC.out, by simp only [HPO.out]; exact hbr⟩
      have hfin : PlM W mb (kf pl start ss (pre ++ [(⟨k, hkl⟩ : Ix ss.length)]).dropLast) := by rw [List.dropLast_concat]; exact HPl.out
      have HFin := Lib.hid hfin
      clear hfin
      by_cases h1 : own ≤ P
      · have h1' : (own : Int) ≤ (P : Int) := by omega
        gi_wp2
        exact ⟨KeepsFrom.refl _ _, ⟨⟨rfl, HX⟩, HFin.out⟩, HGr.out⟩
      · have h1' : (P : Int) < (own : Int) := by omega
        have h2' : (16384 : Int) ≤ (start : Int) + (P : Int) := by omega
        gi_wp2
        exact ⟨KeepsFrom.refl _ _, ⟨⟨rfl, HX⟩, HFin.out⟩, HGr.out⟩
    · have h1' : (P : Int) < (own : Int) := by omega
      have h2' : (start : Int) + (P : Int) < 16384 := by omega
      have HN : Hid (∀ z ∈ pre ++ [(⟨k, hkl⟩ : Ix ss.length)], offs ss z.1 < own ∧ start + offs ss z.1 < 16384) := by
        intro z hz
        rcases List.mem_append.1 hz with hz | hz
        · exact HC.out z hz
        · simp at hz; subst hz; simp only [HPO.out]; omega
      have hlk : ∀ k, (Instr.lookup 123 (.map (some mb)) (.string t) true).run Tryz.prog (W.drewN k) = .ok (.tuple #[.int .i64 ((qfind (kf pl start ss pre) t).getD 0 : Nat), .bool (qfind (kf pl start ss pre) t).isSome]) (W.drewN k) := fun k => (show PlM (W.drewN k) mb (kf pl start ss pre) from HPl.out.same rfl).look t htz
      cases hf : qfind (kf pl start ss pre) t with
      | some p =>
        rw [hf] at hlk HKS
        simp only [Option.getD_some, Option.isSome_some, if_true] at hlk HKS
        have HF : Hid (PlM W mb (kf pl start ss (pre ++ [⟨k, hkl⟩]))) := by rw [HKS.out]; exact HPl.out
        clear hf
        gi_wp2
        refine region_round (F := Fence.wide) rfl (by rfl) (by kernel_rfl) (by kernel_rfl) ?_
        repeat (gi_big_quiet_step (fail))
        refine wpQuietIn_nil ?_
        intro _ hw'
        obtain ⟨nq, hw''⟩ := hw'
        subst hw''
        gi_wp2
        exact ⟨⟨Nat.le_refl _, fun k o _ h _ => h⟩, fun v h => h, ⟨⟨HBx.out, HN⟩, HF.out.same rfl⟩, ⟨HGr.out.os, HGr.out.tape, HGr.out.output, HGr.out.size, HGr.out.block⟩⟩
      | none =>
        rw [hf] at hlk HKS
        simp only [Option.getD_none, Option.isSome_none, Bool.false_eq_true, if_false] at hlk HKS
        have HF : Hid (qfind (kf pl start ss pre) t = none) := hf
        clear hf
        gi_wp2
        refine region_round (F := Fence.wide) rfl (by rfl) (by kernel_rfl) (by kernel_rfl) ?_
        repeat (gi_big_quiet_step (fail))
        refine wpQuietIn_nil ?_
        intro _ hw'
        obtain ⟨nq, hw''⟩ := hw'
        subst hw''
        gi_wp2
        refine region_round_last (F := Fence.wide) (l := [_, _, _, _, _, _, _, _, _, _]) (o := _) rfl (by kernel_rfl) (by kernel_rfl) (by kernel_rfl) (by kernel_rfl) ?_
        repeat (gi_big_quiet_step (fail))
        refine wpQuietIn_nil ?_
        intro _ hw'
        obtain ⟨nq2, hw''⟩ := hw'
        subst hw''
        obtain ⟨W', hrun, hpl', hgr'⟩ := (show PlM ((W.drewN nq).drewN nq2) mb (kf pl start ss pre) from HPl.out.same rfl).store t htz (start + P) (by omega) HF.out (by have := HLN.out; omega)
        have eN : ((start + P : Nat) : Int) = (start : Int) + (P : Int) := by omega
        rw [eN] at hrun
        have hgr2 : W.grownBy W' (some mb) := ⟨hgr'.os, hgr'.tape, hgr'.output, hgr'.size, hgr'.block⟩
        have hb0' := HBx.out.1.1.1.kept hgr2 (by simp; omega)
        have hb1' := HBx.out.1.1.2.kept hgr2 (by simp; omega)
        have hb2' := HBx.out.1.2.kept hgr2 (by simp; omega)
        have hb3' := HBx.out.2.kept hgr2 (by simp; omega)
        have HEND : Hid (KeepsFrom W0.heap.size W W' ∧ KpS (w.heap.size + 1 + 1 + 1 + 1) W W' ∧ (((((Boxed W' w.heap.size 91 (.pointer (some ⟨g, 0, none⟩)) ∧ Boxed W' (w.heap.size + 1) 9 (.string s)) ∧ Boxed W' (w.heap.size + 1 + 1) 3 (.int .i64 (own : Int))) ∧ Boxed W' (w.heap.size + 1 + 1 + 1) 3 (.int .i64 (start : Int))) ∧ Hid (∀ z ∈ pre ++ [(⟨k, hkl⟩ : Ix ss.length)], offs ss z.1 < own ∧ start + offs ss z.1 < 16384)) ∧ PlM W' mb (kf pl start ss (pre ++ [⟨k, hkl⟩]))) ∧ w.grownBy W' (some mb)) :=
          ⟨KeepsFrom.of_grownBy hgr2 (fun j e => by simp only [Option.some.injEq] at e; omega), fun v hv => hv.kept hgr2 (by simp; omega), ⟨⟨⟨⟨⟨hb0', hb1'⟩, hb2'⟩, hb3'⟩, HN⟩, by rw [HKS.out]; exact hpl'⟩, grown_all HGr.out hgr2⟩
        clear hb0' hb1' hb2' hb3' hgr2 hgr' hpl'
        refine wpIn_mapUpdate_eq 123 _ _ _ rfl _ _ _ rfl rfl rfl hrun ?_
        clear hrun
        gi_wp2
        exact HEND.out
  case done =>
    rintro D xs W hD rfl ⟨⟨⟨⟨⟨⟨hb0, hb1⟩, hb2⟩, hb3⟩, HC⟩, hPl⟩, hGr⟩ hK
    have hkf := kf_all pl start m own ss hm hown HC.out
    rw [hkf] at hPl
    have hgD := grown_far hGr (grownBy_putObj' W D (.deferred none)) (by omega)
    obtain ⟨es, cl, e⟩ := hPl.isMap
    have hplD : PlM (W.putObj D (.deferred none)) mb (qkeep pl start m ss) := hPl.same ((grownBy_putObj' W D (.deferred none)).block mb (box_lt e) (by simp; omega))
    have hfin := HW.out.keptx hgD hplD hB
    clear b0 b1 b2 b3 b4 HST HT
    gi_wp2
    refine ⟨by simp, .inl ⟨_, _, rfl, run_takeDeferred hK, ?_⟩⟩
    exact ⟨_, results_none rfl _ _ _, rfl, ⟨_, _, _, hfin.1⟩, hfin.2⟩
  case stop =>
    rintro D cc pre W hD ⟨k, hk9, rfl⟩ ⟨⟨⟨rfl, HC⟩, hPl⟩, hGr⟩ hK
    obtain ⟨q, y, e1, e2, e3⟩ := HC.out
    obtain ⟨j, rfl⟩ : ∃ j, k = j + 1 := ⟨k - 1, by cases k with | zero => simp [iup] at e1 | succ k => rfl⟩
    have hjl : j < ss.length := hk9
    rw [iup_succ hjl] at e1 hPl
    obtain ⟨rfl, ey⟩ := List.append_inj' e1 rfl
    have ey' : y = ⟨j, hjl⟩ := by simpa using ey.symm
    subst ey'
    rw [List.dropLast_concat] at hPl
    have hkf := kf_part pl start m own ss hm hown j hjl e2 e3
    rw [hkf] at hPl
    have hgD := grown_far hGr (grownBy_putObj' W D (.deferred none)) (by omega)
    obtain ⟨es, cl, e⟩ := hPl.isMap
    have hplD : PlM (W.putObj D (.deferred none)) mb (qkeep pl start m ss) := hPl.same ((grownBy_putObj' W D (.deferred none)).block mb (box_lt e) (by simp; omega))
    have hfin := HW.out.keptx hgD hplD hB
    clear b0 b1 b2 b3 b4 HST HT
    gi_wp2
    refine ⟨by simp, .inl ⟨_, _, rfl, run_takeDeferred hK, ?_⟩⟩
    exact ⟨_, results_none rfl _ _ _, rfl, ⟨_, _, _, hfin.1⟩, hfin.2⟩
end Go.Proofs.YtkjnbgekaifdfaaGreat
namespace Go.Proofs.YtkjnbgekaifdfaaGreat
open Go.ChangeShapes Go.WideShapes Go.ChangeAt Go.RowKit Go.Maps
set_option linter.unusedVariables false
set_option linter.unusedSimpArgs false
set_option maxRecDepth 100000 in
set_option maxHeartbeats 2000000 in
theorem wname_nox (B g : Nat) (tx : List Int) (pl : List (ByteArray × Nat)) (a : Option Addr) (n c : Nat) (ss : List ByteArray) (back : Bool) (w : World) (h : Wr B w g tx pl) (hN : Arg w a n ss) (hn : n ≤ 8796093021952) (hk : ¬ nck ss = 0) :
    Calls Tryz.prog 106 #[.pointer (some ⟨g, 0, none⟩), .slice a n c, .bool back] w (NmPostx B g (nck ss, tx, pl) w) := by
  have HW : Hid (Wr B w g tx pl) := h
  obtain ⟨v, ys, mb, h⟩ := h
  have hg := box_lt h.box
  have c0 : w.cell? ⟨g, 0, none⟩ = some (.pointer (some ⟨g, 0, none⟩)) := box_cell h.box 0 _ rfl
  have KM := Lib.hid (made_yes g w c0 hg)
  have KB := Lib.hid (pbytes_bad a n c ss w hN hn hk)
  generalize nck ss = q at *
  have hq : (q != 0) = true := bne_iff_ne.2 hk
  clear h hk hN
  go_enter Tryz.func106, Tryz.ntmps106
  go_wp2_with fail
  refine KM.out.mono ?_
  rintro e w1 ⟨rfl, rfl⟩
  go_wp2_with fail
  refine KB.out.mono ?_
  rintro e w1 ⟨rfl, rfl⟩
  go_wp2
  go_ret
  exact ⟨rfl, HW.out, Fr.refl _ _, Fx.refl _ _⟩
set_option maxRecDepth 100000 in
set_option maxHeartbeats 4000000 in
theorem wname_yesx (B g : Nat) (tx : List Int) (pl : List (ByteArray × Nat)) (a : Option Addr) (n c : Nat) (ss : List ByteArray) (back : Bool) (w : World) (h : Wr B w g tx pl) (hN : Arg w a n ss) (hk : nck ss = 0) (hB : B ≤ w.heap.size) (ht : tx.length ≤ 65535) (hP : ∀ k p, (k, p) ∈ pl → p < 16384) (hpl : pl.length ≤ 100000) :
    Calls Tryz.prog 106 #[.pointer (some ⟨g, 0, none⟩), .slice a n c, .bool back] w (NmPostx B g (wnm tx pl ss back) w) := by
  have HW : Hid (Wr B w g tx pl) := h
  obtain ⟨v, ys, mb, h⟩ := h
  have hg := box_lt h.box
  have c0 : w.cell? ⟨g, 0, none⟩ = some (.pointer (some ⟨g, 0, none⟩)) := box_cell h.box 0 _ rfl
  have c1 : w.cell? ⟨g, 1, none⟩ = some v := box_cell h.box 1 _ rfl
  obtain ⟨aot, hvt, _⟩ := h.own.addr
  obtain ⟨T, hT⟩ : ∃ T, tx.length = T := ⟨_, rfl⟩
  obtain ⟨TC, hTC⟩ : ∃ TC, ys.length = TC := ⟨_, rfl⟩
  rw [hT, hTC] at hvt
  rw [hT] at ht
  subst hvt
  have HT : Hid (tx.length = T) := hT
  have HW1 : Hid (Wr1 B w g tx pl (.slice aot T TC) ys mb) := h
  have KM := Lib.hid (made_yes g w c0 hg)
  have hnb : nbytes ss = (nby ss ++ [0], 0) := by unfold nbytes; rw [if_pos hk]
  have KB := Lib.hid (pbytes_room a n c ss w (hN.nm hk))
  rw [hnb] at KB
  have hln : (nby ss ++ [0]).length = nsz ss := by have := nby_len ss; simp; omega
  simp only [hln] at KB
  obtain ⟨N, hNN⟩ : ∃ N, nsz ss = N := ⟨_, rfl⟩
  rw [hNN] at KB hln
  have hN255 : N ≤ 255 := by rw [← hNN]; exact (nck_small hk).1
  have HNN : Hid (nsz ss = N ∧ (nby ss ++ [0]).length = N) := ⟨hNN, hln⟩
  have HK : Hid (nck ss = 0) := hk
  have HP : Hid (∀ k p, (k, p) ∈ pl → p < 16384) := hP
  clear h hN hk hP hT hnb hln hNN hTC
  cases back with
  | true =>
    have HSP : Hid (wnm tx pl ss true = if 65535 < T + (qshort pl ss).length then (3, tx, pl) else (0, tx ++ qshort pl ss, qkeep pl T (qown pl ss) ss)) := (show _ = _ by unfold wnm; rw [if_pos HK.out, HT.out]; rfl)
    have HOW : Hid (qob pl ss ≤ 255 ∧ ∀ k, k < ss.length → (k < qown pl ss ↔ offs ss k < qob pl ss)) := ⟨qob_le pl ss HK.out, fun k hk => own_iff pl ss k hk⟩
    go_enter Tryz.func106, Tryz.ntmps106
    go_wp2_with fail
    refine KM.out.mono ?_
    rintro e w1 ⟨rfl, rfl⟩
    go_wp2_with fail
    refine KB.out.mono ?_
    rintro e w2 ⟨vb, yb, rfl, H2⟩
    obtain ⟨ab, rfl, _⟩ := H2.out.1.addr
    have HRb : Hid (Rd w2 ab (nby ss ++ [0]) ∧ N ≤ yb.length ∧ yb.length ≤ 140737488355328) := by
      obtain ⟨ab', e, hA⟩ := H2.out.1.addr
      cases e
      have := hA.rdTake N
      rw [H2.out.2.1] at this
      exact ⟨this, hA.le.1, H2.out.2.2.2⟩
    have hg2 : g < w2.heap.size := Nat.lt_of_lt_of_le hg H2.out.2.2.1.size
    have d1 : w2.cell? ⟨g, 1, none⟩ = some (.slice aot T TC) := cell_below H2.out.2.2.1 hg c1
    have KS := Lib.hid (shorten_any B g tx pl ab N yb.length ss w2 (HW.out.below H2.out.2.2.1) HK.out HP.out HRb.out.1 HNN.out.2 HRb.out.2.1 (by have := HRb.out.2.2; omega))
    clear KB
    go_wp2_with fail
    refine KS.out.mono ?_
    rintro e w3 ⟨a3, ns, cs, rfl, H3⟩
    have HV3 : Hid (Wr1 B w3 g tx pl (.slice aot T TC) ys mb ∧ Fr B w1 w3 ∧ B ≤ w3.heap.size ∧ Own w1.heap.size w3 (.slice ab N yb.length) N yb) :=
      ⟨(HW1.out.below H2.out.2.2.1).below H3.out.2.2.2, (Fr.of H2.out.2.2.1 hB).trans (Fr.of H3.out.2.2.2 (Nat.le_trans hB H2.out.2.2.1.size)), Nat.le_trans hB (Nat.le_trans H2.out.2.2.1.size H3.out.2.2.2.size), H2.out.1.below H3.out.2.2.2⟩
    have HX3 : Hid (Fx g w1 w3) := (Fx.of H2.out.2.2.1 hg).trans (Fx.of H3.out.2.2.2 hg2)
    have HRs : Hid (Rd w3 a3 (qshort pl ss) ∧ (qshort pl ss).length = ns ∧ (a3 = none → cs = 0)) := ⟨H3.out.1, H3.out.2.1, H3.out.2.2.1⟩
    have hns : ns ≤ 255 := by rw [← H3.out.2.1]; have := (qshort_len pl ss (fun s hs => (chk_ok (labs_of HK.out s hs)).1)).2; have := HNN.out.1; omega
    obtain ⟨ob, hob⟩ : ∃ ob, qob pl ss = ob := ⟨_, rfl⟩
    rw [hob] at HOW ⊢
    clear hob
    have KW := Lib.hid (wbytes1x B g tx pl (.slice aot T TC) ys mb a3 ns cs (qshort pl ss) w3 HV3.out.1 HV3.out.2.2.1 (by rw [HT.out]; exact ht) HRs.out.1 HRs.out.2.1 HRs.out.2.2 (by omega))
    simp only [HT.out] at KW
    rw [HRs.out.2.1] at HSP
    by_cases hbig : 65535 < T + ns
    · rw [if_pos hbig, if_pos hbig] at KW
      rw [if_pos hbig] at HSP
      go_wp2_with fail
      refine KW.out.mono ?_
      rintro e w4 ⟨rfl, H4, HX4⟩
      go_wp2
      go_ret
      rw [HSP.out]
      exact ⟨rfl, H4.out.1, HV3.out.2.1.trans H4.out.2.1, HX3.out.trans HX4.out⟩
    · rw [if_neg hbig, if_neg hbig] at KW
      rw [if_neg hbig] at HSP
      go_wp2_with fail
      refine KW.out.mono ?_
      rintro e w4 ⟨rfl, H4, HX4⟩
      have HO4 : Hid (Rd w4 ab (nby ss ++ [0])) := by
        have := HV3.out.2.2.2.keepAt (w' := w4) (fun j hj hl => H4.out.2.2 j hl (fun e => by subst e; have := (HV3.out.2.2.2.blk5 _ hj).1; omega) (fun e => by have h1 := (HV3.out.2.2.2.blk5 _ hj).1; obtain ⟨_, cs', h2⟩ := HW1.out.own.blk5 _ e; have := box_lt h2; omega))
        obtain ⟨ab', e, hA⟩ := this.addr
        cases e
        have := hA.rdTake N
        rw [H2.out.2.1] at this
        exact this
      have hcv : (convert 29 9 (.slice ab N yb.length)).run Tryz.prog w4 = .ok (.string (qkey ss)) w4 := conv_rd _ _ _ _ _ HO4.out HNN.out.2
      have HB4 : Hid (B ≤ w4.heap.size) := (Nat.le_trans HV3.out.2.2.1 H4.out.2.1.below.size : B ≤ w4.heap.size)
      have KK := Lib.hid (keep_anyx B g (tx ++ qshort pl ss) pl ss ob T (qown pl ss) w4 H4.out.1 HK.out (by omega) HOW.out.1 (qown_le pl ss) HOW.out.2 hpl HB4.out)
      generalize qkey ss = s at *
      go_wp2_with fail
      refine KK.out.mono ?_
      rintro e w5 ⟨rfl, H5⟩
      go_wp2
      go_ret
      rw [HSP.out]
      exact ⟨rfl, H5.out.1, (HV3.out.2.1.trans H4.out.2.1).trans H5.out.2.1, (HX3.out.trans HX4.out).trans H5.out.2.2⟩
  | false =>
    have HSP : Hid (wnm tx pl ss false = if 65535 < T + (qshort [] ss).length then (3, tx, pl) else (0, tx ++ qshort [] ss, qkeep pl T (qown [] ss) ss)) := (show _ = _ by unfold wnm; rw [if_pos HK.out, HT.out]; rfl)
    have HOW : Hid (N ≤ 255 ∧ ∀ k, k < ss.length → (k < qown [] ss ↔ offs ss k < N)) := ⟨hN255, fun k hk => by rw [qown_nil, ← HNN.out.1]; have := offs_le ss k; omega⟩
    go_enter Tryz.func106, Tryz.ntmps106
    go_wp2_with fail
    refine KM.out.mono ?_
    rintro e w1 ⟨rfl, rfl⟩
    go_wp2_with fail
    refine KB.out.mono ?_
    rintro e w2 ⟨vb, yb, rfl, H2⟩
    obtain ⟨ab, rfl, hAb⟩ := H2.out.1.addr
    have hnil := hAb.nil
    have hg2 : g < w2.heap.size := Nat.lt_of_lt_of_le hg H2.out.2.2.1.size
    have d1 : w2.cell? ⟨g, 1, none⟩ = some (.slice aot T TC) := cell_below H2.out.2.2.1 hg c1
    have HRs : Hid (Rd w2 ab (qshort [] ss) ∧ (qshort [] ss).length = N ∧ (ab = none → yb.length = 0)) := by
      have := hAb.rdTake N
      rw [H2.out.2.1] at this
      rw [qshort_nil]
      exact ⟨this, HNN.out.2, hnil⟩
    have HV3 : Hid (Wr1 B w2 g tx pl (.slice aot T TC) ys mb ∧ Fr B w1 w2 ∧ B ≤ w2.heap.size ∧ Own w1.heap.size w2 (.slice ab N yb.length) N yb) :=
      ⟨HW1.out.below H2.out.2.2.1, Fr.of H2.out.2.2.1 hB, Nat.le_trans hB H2.out.2.2.1.size, H2.out.1⟩
    have HX3 : Hid (Fx g w1 w2) := Fx.of H2.out.2.2.1 hg
    clear KB hnil hAb
    have KW := Lib.hid (wbytes1x B g tx pl (.slice aot T TC) ys mb ab N yb.length (qshort [] ss) w2 HV3.out.1 HV3.out.2.2.1 (by rw [HT.out]; exact ht) HRs.out.1 HRs.out.2.1 HRs.out.2.2 (by omega))
    simp only [HT.out] at KW
    rw [HRs.out.2.1] at HSP
    by_cases hbig : 65535 < T + N
    · rw [if_pos hbig, if_pos hbig] at KW
      rw [if_pos hbig] at HSP
      go_wp2_with fail
      refine KW.out.mono ?_
      rintro e w4 ⟨rfl, H4, HX4⟩
      go_wp2
      go_ret
      rw [HSP.out]
      exact ⟨rfl, H4.out.1, HV3.out.2.1.trans H4.out.2.1, HX3.out.trans HX4.out⟩
    · rw [if_neg hbig, if_neg hbig] at KW
      rw [if_neg hbig] at HSP
      go_wp2_with fail
      refine KW.out.mono ?_
      rintro e w4 ⟨rfl, H4, HX4⟩
      have HO4 : Hid (Rd w4 ab (nby ss ++ [0])) := by
        have := HV3.out.2.2.2.keepAt (w' := w4) (fun j hj hl => H4.out.2.2 j hl (fun e => by subst e; have := (HV3.out.2.2.2.blk5 _ hj).1; omega) (fun e => by have h1 := (HV3.out.2.2.2.blk5 _ hj).1; obtain ⟨_, cs', h2⟩ := HW1.out.own.blk5 _ e; have := box_lt h2; omega))
        obtain ⟨ab', e, hA⟩ := this.addr
        cases e
        have := hA.rdTake N
        rw [H2.out.2.1] at this
        exact this
      have hcv : (convert 29 9 (.slice ab N yb.length)).run Tryz.prog w4 = .ok (.string (qkey ss)) w4 := conv_rd _ _ _ _ _ HO4.out HNN.out.2
      have HB4 : Hid (B ≤ w4.heap.size) := (Nat.le_trans HV3.out.2.2.1 H4.out.2.1.below.size : B ≤ w4.heap.size)
      have KK := Lib.hid (keep_anyx B g (tx ++ qshort [] ss) pl ss N T (qown [] ss) w4 H4.out.1 HK.out (by omega) HOW.out.1 (qown_le [] ss) HOW.out.2 hpl HB4.out)
      generalize qkey ss = s at *
      go_wp2_with fail
      refine KK.out.mono ?_
      rintro e w5 ⟨rfl, H5⟩
      go_wp2
      go_ret
      rw [HSP.out]
      exact ⟨rfl, H5.out.1, (HV3.out.2.1.trans H4.out.2.1).trans H5.out.2.1, (HX3.out.trans HX4.out).trans H5.out.2.2⟩
theorem wname_anyx (B g : Nat) (tx : List Int) (pl : List (ByteArray × Nat)) (a : Option Addr) (n c : Nat) (ss : List ByteArray) (back : Bool) (w : World) (h : Wr B w g tx pl) (hN : Arg w a n ss) (hn : n ≤ 8796093021952) (hB : B ≤ w.heap.size) (ht : tx.length ≤ 65535) (hP : ∀ k p, (k, p) ∈ pl → p < 16384) (hpl : pl.length ≤ 100000) :
    Calls Tryz.prog 106 #[.pointer (some ⟨g, 0, none⟩), .slice a n c, .bool back] w (NmPostx B g (wnm tx pl ss back) w) := by
  by_cases hk : nck ss = 0
  · exact wname_yesx B g tx pl a n c ss back w h hN hk hB ht hP hpl
  · have e : wnm tx pl ss back = (nck ss, tx, pl) := by unfold wnm; rw [if_neg hk]
    rw [e]
    exact wname_nox B g tx pl a n c ss back w h hN hn hk
end Go.Proofs.YtkjnbgekaifdfaaGreat
namespace Go.Proofs.YtkjnbgekaifdfaaGreat
open Go.ChangeShapes Go.WideShapes Go.ChangeAt Go.RowKit Go.Maps
set_option linter.unusedVariables false
set_option linter.unusedSimpArgs false
set_option maxRecDepth 100000 in
set_option maxHeartbeats 1000000 in
theorem wset_yes (B g : Nat) (tx : List Int) (pl : List (ByteArray × Nat)) (T at_ n : Nat) (w : World) (h : Wr B w g tx pl) (hT : tx.length = T) (ht : T ≤ 65535) (hn : n ≤ 65535) (ha : at_ + 2 ≤ T) (hB : B ≤ w.heap.size) :
    Calls Tryz.prog 110 #[.pointer (some ⟨g, 0, none⟩), .int .i64 at_, .int .i64 n] w fun e w' => e = .returned (.int .i64 0) ∧ Hid (Wr B w' g (tx.take at_ ++ numB n 2 ++ tx.drop (at_ + 2)) pl ∧ Fr B w w' ∧ Fx g w w') := by
  obtain ⟨v, ys, mb, h⟩ := h
  have hg := box_lt h.box
  have c0 : w.cell? ⟨g, 0, none⟩ = some (.pointer (some ⟨g, 0, none⟩)) := box_cell h.box 0 _ rfl
  have c1 : w.cell? ⟨g, 1, none⟩ = some v := box_cell h.box 1 _ rfl
  have HW : Hid (Wr1 B w g tx pl v ys mb) := h
  have hown := h.own
  rw [hT] at hown
  rcases hown with ⟨_, h0, _⟩ | ⟨gb, rfl, hBg, hblk, hTn, hmx⟩
  · omega
  have HBK : Hid (Blk w gb ys ∧ B ≤ gb ∧ gb < w.heap.size) := ⟨hblk, hBg, hblk.lt⟩
  generalize hTC : ys.length = TC at *
  have KM := Lib.hid (made_yes g w c0 hg)
  have KP : Hid (Calls Tryz.prog 70 #[.int .i64 n] w fun e w' => e = .returned (.tuple #[.slice (some ⟨w.heap.size, 0, none⟩) 2 2, .int .i64 0]) ∧ w' = w.alloc (.cells #[.int .u8 ((n : Int) / 256), .int .u8 ((n : Int) % 256)] 5)) := put16_yes n w (by omega) (by omega)
  have hmx2 : TC ≤ 9223372036854775807 := by simp only [maxLen] at hmx; omega
  clear h hblk
  have k1 : (at_ : Int) ≤ (T : Int) - 2 := by omega
  go_enter Tryz.func110, Tryz.ntmps110
  go_wp2_with fail
  refine KM.out.mono ?_
  rintro e w1 ⟨rfl, rfl⟩
  go_wp2_with fail
  refine KP.out.mono ?_
  rintro e w2 ⟨rfl, hw2⟩
  have hb2 : Below w1.heap.size w1 w2 := by rw [hw2]; exact newq_below _ _
  have d1 : w2.cell? ⟨g, 1, none⟩ = some (.slice (some ⟨gb, 0, none⟩) T TC) := cell_below hb2 hg c1
  have hg2 : g < w2.heap.size := Nat.lt_of_lt_of_le hg hb2.size
  have HB2 := Lib.hid hb2
  have HW2 := Lib.hid hw2
  clear hw2 hb2
  have hS : w2.heap[w1.heap.size]? = some (.cells #[.int .u8 ((n : Int) / 256), .int .u8 ((n : Int) % 256)] 5) := by rw [HW2.out]; exact heap_alloc_new _ _
  have hG : w2.heap[gb]? = some (.cells (ys.map (Value.int .u8)).toArray 5 (0, 0)) := (HB2.out.block gb HBK.out.2.2).trans HBK.out.1.1
  have hcp := run_copy_row (P := Tryz.prog) w2 29 29 3 5 gb at_ (T - at_) (TC - at_) ⟨w1.heap.size, 0, none⟩ 2 2 _ 5 [.int .u8 ((n : Int) / 256), .int .u8 ((n : Int) % 256)] Tryz.underlying29 (by kernel_rfl) hG (show 2 = Nat.min 2 (T - at_) from (Nat.min_eq_left (by omega)).symm)
    (by
      intro j u hj
      match j, hj with
      | 0, hj => simp at hj; subst hj; simpa [Addr.add] using box_cell hS 0 _ rfl
      | 1, hj => simp at hj; subst hj; simpa [Addr.add] using box_cell hS 1 _ rfl
      | j + 2, hj => simp at hj) (by simp; omega) (by intro u hu; simp at hu; rcases hu with rfl | rfl <;> rfl)
  have e1 : ((ys.map (Value.int .u8)).toArray.toList.take at_ ++ [Value.int .u8 ((n : Int) / 256), .int .u8 ((n : Int) % 256)] ++ (ys.map (Value.int .u8)).toArray.toList.drop (at_ + [Value.int .u8 ((n : Int) / 256), .int .u8 ((n : Int) % 256)].length)).toArray = ((ys.take at_ ++ numB n 2 ++ ys.drop (at_ + 2)).map (Value.int .u8)).toArray := by
    simp [numB]
  rw [e1] at hcp
  clear e1
  have hcp : (Builtin.copy_ #[29, 29] 3 #[.slice (some ⟨gb, at_, none⟩) (T - at_) (TC - at_), .slice (some ⟨w1.heap.size, 0, none⟩) 2 2]).run Tryz.prog w2 = .ok (.int .i64 2) (w2.setRow gb ((ys.take at_ ++ numB n 2 ++ ys.drop (at_ + 2)).map (Value.int .u8)).toArray) := by
    rw [hcp]; simp [goInt]
  have hnl : (numB n 2).length = 2 := numB_len n 2 (by omega)
  have hlen : (ys.take at_ ++ numB n 2 ++ ys.drop (at_ + 2)).length = TC := by simp only [List.length_append, List.length_take, List.length_drop, hnl]; omega
  have hne : gb ≠ g := by
    rintro rfl
    have := HW.out.box
    rw [HBK.out.1.1] at this
    injection this with this
    injection this with _ this _
    exact absurd this (by decide)
  have HF : Hid (Wr1 B (w2.setRow gb ((ys.take at_ ++ numB n 2 ++ ys.drop (at_ + 2)).map (Value.int .u8)).toArray) g (tx.take at_ ++ numB n 2 ++ tx.drop (at_ + 2)) pl (.slice (some ⟨gb, 0, none⟩) T TC) (ys.take at_ ++ numB n 2 ++ ys.drop (at_ + 2)) mb ∧ Fr B w1 (w2.setRow gb ((ys.take at_ ++ numB n 2 ++ ys.drop (at_ + 2)).map (Value.int .u8)).toArray) ∧ Fx g w1 (w2.setRow gb ((ys.take at_ ++ numB n 2 ++ ys.drop (at_ + 2)).map (Value.int .u8)).toArray)) := by
    have hoth : ∀ j, j ≠ gb → (w2.setRow gb ((ys.take at_ ++ numB n 2 ++ ys.drop (at_ + 2)).map (Value.int .u8)).toArray).heap[j]? = w2.heap[j]? := fun j hj => setRow_other w2 gb j _ hj
    have hown2 : w2.heap[gb]? = some (.cells (ys.map (Value.int .u8)).toArray 5) := hG
    have hrow := setRow_block hown2 ((ys.take at_ ++ numB n 2 ++ ys.drop (at_ + 2)).map (Value.int .u8)).toArray
    have hsz := setRow_size w2 gb ((ys.take at_ ++ numB n 2 ++ ys.drop (at_ + 2)).map (Value.int .u8)).toArray
    have hgr : w2.grownBy (w2.setRow gb ((ys.take at_ ++ numB n 2 ++ ys.drop (at_ + 2)).map (Value.int .u8)).toArray) (some gb) := ⟨rfl, rfl, rfl, by rw [hsz]; exact Nat.le_refl _, fun j _ hne => hoth j (fun e => hne (by rw [e]))⟩
    have hW2 := HW.out.below HB2.out
    generalize w2.setRow gb ((ys.take at_ ++ numB n 2 ++ ys.drop (at_ + 2)).map (Value.int .u8)).toArray = w3 at *
    have htl : (tx.take at_ ++ numB n 2 ++ tx.drop (at_ + 2)).length = T := by simp only [List.length_append, List.length_take, List.length_drop, hnl]; omega
    have htx := HW.out.txt
    rw [hT] at htx
    obtain ⟨es, cl, em⟩ := hW2.map.isMap
    have hmg : mb ≠ gb := by rintro rfl; rw [hG] at em; cases em
    refine ⟨⟨(hoth g (Ne.symm hne)).trans hW2.box, hW2.gB, hW2.mB, ?_, ?_, hW2.map.same (hoth mb hmg)⟩, ?_, ?_⟩
    · rw [htl]
      refine .inr ⟨gb, by rw [hlen], HBK.out.2.1, ⟨hrow, ?_⟩, by rw [hlen]; exact hTn, by rw [hlen]; exact hmx⟩
      intro z hz
      simp only [List.mem_append] at hz
      rcases hz with (hz | hz) | hz
      · exact HBK.out.1.2 z (List.mem_of_mem_take hz)
      · simp [numB] at hz; omega
      · exact HBK.out.1.2 z (List.mem_of_mem_drop hz)
    · rw [htl, ← htx, List.take_take, Nat.min_eq_left (by omega), List.drop_take]
      have q1 : (ys.take at_ ++ numB n 2).length = at_ + 2 := by simp only [List.length_append, List.length_take, hnl]; omega
      rw [List.take_append, q1, List.take_of_length_le (by rw [q1]; omega)]
    · refine ⟨HB2.out.mono hB |>.trans ((Below.refl B w2).grown hgr (Nat.le_trans hB HB2.out.size) (fun k e => by simp only [Option.some.injEq] at e; subst e; exact HBK.out.2.1)), ?_⟩
      intro j cs t fr hj h5 _
      have e1 := HB2.out.block j (box_lt hj)
      refine (hoth j ?_).trans e1
      rintro rfl
      rw [HBK.out.1.1] at hj
      cases hj
      exact h5 rfl
    · refine ⟨Nat.le_trans HB2.out.size (by rw [hsz]; exact Nat.le_refl _), fun j cs fr hj hn => ?_, .inl (tbk_same ((hoth g (Ne.symm hne)).trans (HB2.out.block g hg)))⟩
      rw [tbk_box HW.out.box] at hn
      refine (hoth j ?_).trans (HB2.out.block j (box_lt hj))
      rintro rfl
      exact hn rfl
  generalize w2.setRow gb ((ys.take at_ ++ numB n 2 ++ ys.drop (at_ + 2)).map (Value.int .u8)).toArray = w3 at *
  clear hS hG hlen
  go_wp2
  go_ret
  exact ⟨rfl, ⟨_, _, _, HF.out.1⟩, HF.out.2⟩
end Go.Proofs.YtkjnbgekaifdfaaGreat
