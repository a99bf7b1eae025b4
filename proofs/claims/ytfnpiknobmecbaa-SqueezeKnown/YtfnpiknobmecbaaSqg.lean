/- SqueezeReads' walk. -/
import Derived.Test.YtfnpiknobmecbaaSqf
namespace Go.Proofs.Ytfnpiknobmecbaa
open Go.ChangeShapes Go.WideShapes Go.ChangeAt Go.RowKit
set_option linter.unusedVariables false
set_option linter.unusedSimpArgs false

/-- What Read tells, by its parts. -/
def SPo (n : Nat) (nm : List ByteArray) (q er : Int) (w : World) (e : Ending) (w' : World) : Prop :=
  ∃ v ys, e = .returned (.tuple #[v, .int .i64 q, .int .i64 er]) ∧ Hid (OwnT w.heap.size w' v n ys 1000 ∧ ys.take n = nm ∧ Below w.heap.size w w')
theorem SPost.po {n : Nat} {nm : List ByteArray} {q er : Int} {w w' : World} {e : Ending} (h : SPost (nm, q, er) w e w') (hn : nm.length = n) : SPo n nm q er w e w' := by
  subst hn
  exact h
set_option maxRecDepth 100000 in
set_option maxHeartbeats 8000000 in
theorem sreadsL (a : Option Addr) (len cap : Nat) (d : Int) (back : Bool) (zs : List Int) (w : World) (hr : Rd w a zs) (hl : zs.length = len) (hc : len ≤ cap) (hm : len ≤ 140737488355328) (hm2 : cap ≤ 9223372036854775807) (hd : a = none → cap = 0) :
    Calls Try.prog 4 #[.slice a len cap, .int .i64 d, .bool back] w fun e w' => e = .returned (.bool true) ∧ Below w.heap.size w w' := by
  by_cases hbig : 20000 < len
  · have hbig' : (20000 : Int) < (len : Int) := by omega
    clear hr hl hd
    go_enter Try.func4, Try.ntmps4
    go_wp2
    go_ret
    exact ⟨rfl, Below.refl _ _⟩
  · have hbig' : (len : Int) ≤ 20000 := by omega
    have KL := Lib.hid (lent_any a cap zs w hr hd (by omega))
    rw [hl] at KL
    have HR : Hid (Rd w a zs) := hr
    have HL : Hid (zs.length = len) := hl
    have HD : Hid (a = none → cap = 0) := hd
    clear hr hl hd
    go_enter Try.func4, Try.ntmps4
    go_wp2_with fail
    refine KL.out.mono ?_
    rintro e w1 ⟨rfl, hblk, hsz, hb1⟩
    have HB1 : Hid (Blk w1 w.heap.size (lent zs 3) ∧ Below w.heap.size w w1) := ⟨hblk, hb1⟩
    have hz1 : w.heap.size < w1.heap.size := by omega
    have HR1 : Hid (Rd w1 (some ⟨w.heap.size, 0, none⟩) zs) := by
      have := hblk.rd zs.length
      rw [lent_take] at this
      exact this
    clear KL hblk hb1
    obtain ⟨nm, q, er, hqr⟩ : ∃ nm q er, qread zs d back = (nm, q, er) := ⟨_, _, _, rfl⟩
    obtain ⟨n, hn⟩ : ∃ n, nm.length = n := ⟨_, rfl⟩
    have KR : Hid (∀ W, Below w1.heap.size w1 W → Calls Try.prog 17 #[.slice (some ⟨w.heap.size, 0, none⟩) len (len + 3), .int .i64 d, .bool back] W (SPo n nm q er W)) := fun W hb => (sread_any _ len (len + 3) d back zs W (HR1.out.below hb) HL.out hm (by omega) (by omega)).mono fun e w' h => by rw [hqr] at h; exact SPost.po h hn
    have KF : Hid (∀ W, Below w.heap.size w W → Calls Try.prog 18 #[.slice a len cap, .int .i64 d, .bool back] W (SPo n nm q er W)) := fun W hb => (rread_any a len cap d back zs W (HR.out.below hb) HL.out hm hc hm2).mono fun e w' h => by rw [hqr] at h; exact SPost.po h hn
    have HN : Hid (nm.length = n) := hn
    clear hn hqr
    have KK : Hid (∀ W, Below w1.heap.size w1 W → Calls Try.prog 20 #[.slice (some ⟨w.heap.size, 0, none⟩) len (len + 3), .slice a len cap] W fun e w' => e = .returned (.bool true) ∧ Below W.heap.size W w') := fun W hb => kept_yes w.heap.size a cap len zs W HL.out (HB1.out.1.below hb) (HR.out.below (HB1.out.2.trans (hb.mono HB1.out.2.size))) HD.out hm hc
    go_wp2_with fail
    refine (KR.out w1 (Below.refl _ _)).mono ?_
    rintro e w2 ⟨v2, y2, rfl, H2⟩
    obtain ⟨o2, rfl, _⟩ := H2.out.1.shape
    have HB2 : Hid (Below w1.heap.size w1 w2) := H2.out.2.2
    go_wp2_with fail
    refine (KR.out w2 HB2.out).mono ?_
    rintro e w3 ⟨v3, y3, rfl, H3⟩
    obtain ⟨o3, rfl, _⟩ := H3.out.1.shape
    have HB3 : Hid (Below w1.heap.size w1 w3 ∧ Below w.heap.size w w3) := by
      have e1 := HB2.out.trans (H3.out.2.2.mono HB2.out.size)
      exact ⟨e1, HB1.out.2.trans (e1.mono HB1.out.2.size)⟩
    go_wp2_with fail
    refine (KF.out w3 HB3.out.2).mono ?_
    rintro e w4 ⟨v4, y4, rfl, H4⟩
    obtain ⟨o4, rfl, _⟩ := H4.out.1.shape
    have HS : Hid (∀ W, Below w4.heap.size w4 W → RdT W o2 nm ∧ RdT W o3 nm ∧ RdT W o4 nm) := fun W hW => by
      have b3 := H3.out.2.2
      have b4 := H4.out.2.2
      have x2 := ((H2.out.1.below b3).below (b4.mono (Nat.le_refl _))).below hW
      have x3 := (H3.out.1.below b4).below hW
      have x4 := H4.out.1.below hW
      have f2 := x2.rd n
      have f3 := x3.rd n
      have f4 := x4.rd n
      rw [H2.out.2.1] at f2
      rw [H3.out.2.1] at f3
      rw [H4.out.2.1] at f4
      exact ⟨f2, f3, f4⟩
    have hn1 : n ≤ 9223372036854775807 := by have := H2.out.1.le; unfold maxLen at this; omega
    have hq1 : (q == q) = true := by simp
    have he1 : (er == er) = true := by simp
    go_wp2_with fail
    have HS4 := HS.out w4 (Below.refl _ _)
    refine (sameN_yes o2 o4 n _ _ nm w4 HS4.1 HS4.2.2 HN.out hn1).mono ?_
    rintro e w5 ⟨rfl, H5⟩
    clear HS4
    have HB5 : Hid (Below w1.heap.size w1 w5) := (HB3.out.1.trans (H4.out.2.2.mono HB3.out.1.size)).trans (H5.out.mono (HB3.out.1.trans (H4.out.2.2.mono HB3.out.1.size)).size)
    go_wp2_with fail
    refine (KK.out w5 HB5.out).mono ?_
    rintro e w6 ⟨rfl, hb6⟩
    have HB6 : Hid (Below w4.heap.size w4 w6) := H5.out.trans (hb6.mono H5.out.size)
    have HC6 : Hid (Below w1.heap.size w1 w6) := HB5.out.trans (hb6.mono HB5.out.size)
    clear hb6 KK KR KF
    have HO2 : Hid (Calls Try.prog 21 #[.slice o2 n y2.length] w6 fun e w' => e = .returned (.tuple #[]) ∧ Hid (∃ o : Option Nat, w6.grownBy w' o ∧ ∀ j, o = some j → w1.heap.size ≤ j ∧ j < w2.heap.size)) := overT_own H2.out.1 (by omega) ((H3.out.2.2.trans (H4.out.2.2.mono H3.out.2.2.size)).trans (HB6.out.mono (H3.out.2.2.trans (H4.out.2.2.mono H3.out.2.2.size)).size))
    go_wp2_with fail
    refine HO2.out.mono ?_
    rintro e w7 ⟨rfl, H7⟩
    clear HO2
    have HBk : Hid (Blk w7 w.heap.size (lent zs 3)) := by
      obtain ⟨o, hg, ho⟩ := H7.out
      refine (HB1.out.1.below HC6.out).same (hg.block _ ?_ (fun e => ?_))
      · exact Nat.lt_of_lt_of_le hz1 HC6.out.size
      · have := (ho _ e.symm).1; omega
    have KO := Lib.hid (over_blk w.heap.size len (lent zs 3) w7 HBk.out (by rw [lent_len _ _ (by omega), HL.out]; omega) (by rw [lent_len _ _ (by omega), HL.out]; unfold maxLen; omega))
    rw [lent_len _ _ (by omega), HL.out] at KO
    go_wp2_with fail
    refine KO.out.mono ?_
    rintro e w8 ⟨rfl, hbk8, hg8, hs8⟩
    have HF : Hid (RdT w8 o3 nm ∧ RdT w8 o4 nm ∧ Below w.heap.size w w8) := by
      obtain ⟨o, hg, ho⟩ := H7.out
      have s2 := HB2.out.size
      have s3 := H3.out.2.2.size
      have s4 := H4.out.2.2.size
      have s6 := HB6.out.size
      have s7 := hg.size
      have x3 := ((H3.out.1.below H4.out.2.2).below HB6.out).off hg (fun j e => (ho j e).2)
      have x4 := (H4.out.1.below HB6.out).off hg (fun j e => by have := (ho j e).2; omega)
      have z3 := x3.off hg8 (fun j e => by cases e; omega)
      have z4 := x4.off hg8 (fun j e => by cases e; omega)
      have f3 := z3.rd n
      have f4 := z4.rd n
      rw [H3.out.2.1] at f3
      rw [H4.out.2.1] at f4
      have b6 : Below w.heap.size w w6 := HB1.out.2.trans (HC6.out.mono HB1.out.2.size)
      have b7 : Below w.heap.size w w7 := b6.grown hg b6.size (fun j e => by have := (ho j e).1; omega)
      exact ⟨f3, f4, b7.grown hg8 b7.size (fun j e => by cases e; exact Nat.le_refl _)⟩
    clear hg8 hbk8 KO
    go_wp2_with fail
    refine (sameN_yes o3 o4 n _ _ nm w8 HF.out.1 HF.out.2.1 HN.out hn1).mono ?_
    rintro e w9 ⟨rfl, H9⟩
    go_wp2
    go_ret
    exact ⟨rfl, HF.out.2.2.trans (H9.out.mono HF.out.2.2.size)⟩
end Go.Proofs.Ytfnpiknobmecbaa
