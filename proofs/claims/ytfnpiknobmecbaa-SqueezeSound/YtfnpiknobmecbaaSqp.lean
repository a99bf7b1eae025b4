/- SqueezeSound's walk. -/
import Derived.Test.YtfnpiknobmecbaaSqo
namespace Go.Proofs.Ytfnpiknobmecbaa
open Go.ChangeShapes Go.WideShapes Go.ChangeAt Go.RowKit Go.Maps
set_option linter.unusedVariables false
set_option linter.unusedSimpArgs false

theorem qread_cases (zs : List Int) (d : Int) (back : Bool) : (∃ (k : Nat) (n : List ByteArray) (q : Nat), d = k ∧ k ≤ zs.length ∧ qgo zs back k k none [] = some (n, q) ∧ qread zs d back = (n, (q : Int), 0)) ∨ (∃ er : Int, er ≠ 0 ∧ qread zs d back = ([], 0, er)) := by
  by_cases h : d < 0 ∨ (zs.length : Int) < d
  · exact .inr ⟨2, by decide, qread_out zs d back h⟩
  · obtain ⟨k, rfl⟩ : ∃ k : Nat, d = k := ⟨d.toNat, by omega⟩
    rw [qread_in zs k back (by omega)]
    cases hg : qgo zs back k k none [] with
    | none => exact .inr ⟨8, by decide, rfl⟩
    | some r => exact .inl ⟨k, r.1, r.2, rfl, by omega, by rw [hg], rfl⟩
theorem qread_bad {zs : List Int} {d : Int} {er : Int} (h0 : er ≠ 0) (h : qread zs d true = ([], 0, er)) : ∃ er', er' ≠ 0 ∧ qread zs d false = ([], 0, er') := by
  rcases qread_cases zs d false with ⟨k, n, q, rfl, hk, hg, hr⟩ | h1
  · rw [qread_in zs k true hk, (qgo_plain hg).1] at h
    simp only [qres, Prod.mk.injEq] at h
    exact absurd h.2.2.symm h0
  · exact h1
theorem qread_good {zs : List Int} {k : Nat} {n : List ByteArray} {q : Nat} (hk : k ≤ zs.length) (hg : qgo zs true k k none [] = some (n, q)) : nck n = 0 ∧ k < q ∧ q ≤ zs.length ∧
    ((qread zs k false = (n, (q : Int), 0) ∧ q = k + nsz n) ∨ (∃ er', er' ≠ 0 ∧ qread zs k false = ([], 0, er'))) ∧ ∀ ms, qread (zs ++ ms) k true = (n, (q : Int), 0) := by
  refine ⟨qgo_name hg nck_nil, (qgo_behind hg).1, (qgo_behind hg).2, ?_, fun ms => ?_⟩
  · rcases qread_cases zs k false with ⟨k', n', q', e, hk', hg', hr⟩ | h1
    · obtain rfl : k = k' := by omega
      obtain ⟨e1, e2⟩ := qgo_plain hg'
      rw [hg] at e1
      cases e1
      simp only [nsz] at e2
      exact .inl ⟨hr, by omega⟩
    · exact .inr h1
  · rw [qread_in (zs ++ ms) k true (by simp; omega), qgo_more hg]
    rfl
set_option maxRecDepth 100000 in
set_option maxHeartbeats 8000000 in
theorem soundL (a : Option Addr) (len cap : Nat) (d : Int) (a2 : Option Addr) (len2 cap2 : Nat) (zs ms : List Int) (w : World) (hr : Rd w a zs) (hl : zs.length = len) (hc : len ≤ cap) (hm : len ≤ 140737488355328) (hm2 : cap ≤ 9223372036854775807) (hd : a = none → cap = 0)
    (hr2 : Rd w a2 ms) (hl2 : ms.length = len2) (hc2 : len2 ≤ cap2) (hn2 : len2 ≤ 140737488355328) (hd2 : a2 = none → cap2 = 0) :
    Calls Try.prog 7 #[.slice a len cap, .int .i64 d, .slice a2 len2 cap2] w fun e w' => e = .returned (.bool true) ∧ Below w.heap.size w w' := by
  have KA := Lib.hid (awake_any w)
  by_cases hbig : 20000 < len ∨ 1000 < len2
  · clear hr hl hd hr2 hl2 hd2
    by_cases h1 : 20000 < len
    · have h1' : (20000 : Int) < (len : Int) := by omega
      go_enter Try.func7, Try.ntmps7
      go_wp2_with fail
      refine KA.out.mono ?_
      rintro e w1 ⟨rfl, H1⟩
      go_wp2_with fail
      go_ret
      exact ⟨rfl, H1.out⟩
    · have h1' : (len : Int) ≤ 20000 := by omega
      have h2' : (1000 : Int) < (len2 : Int) := by omega
      go_enter Try.func7, Try.ntmps7
      go_wp2_with fail
      refine KA.out.mono ?_
      rintro e w1 ⟨rfl, H1⟩
      go_wp2_with fail
      go_ret
      exact ⟨rfl, H1.out⟩
  · have h1' : (len : Int) ≤ 20000 := by omega
    have h2' : (len2 : Int) ≤ 1000 := by omega
    have HR : Hid (Rd w a zs ∧ zs.length = len ∧ Rd w a2 ms ∧ ms.length = len2) := ⟨hr, hl, hr2, hl2⟩
    have KR : Hid (∀ W back, Below w.heap.size w W → Calls Try.prog 17 #[.slice a len cap, .int .i64 d, .bool back] W (SPost (qread zs d back) W)) := fun W back hb => sread_any a len cap d back zs W (hr.below hb) hl hm hc hm2
    have KC : Hid (∀ W, Below w.heap.size w W → Calls Try.prog 30 #[.slice a len cap] W fun e w' => ∃ v ys, e = .returned v ∧ Hid (Own W.heap.size w' v len ys ∧ ys.take len = zs ∧ Below W.heap.size W w')) := fun W hb => by
      have := copy_any a cap zs W (hr.below hb) hd (by omega)
      rw [hl] at this
      refine this.mono ?_
      rintro e w' ⟨v, ys, h1, h2, h3, h4⟩
      exact ⟨v, ys, h1, h2, h3, h4⟩
    rcases qread_cases zs d true with ⟨k, nm, q, rfl, hk, hg, hqr⟩ | ⟨er, her, hqr⟩
    · obtain ⟨g1, g2, g3, g4, g5⟩ := qread_good hk hg
      have KT : Hid (∀ W, Below w.heap.size w W → Calls Try.prog 17 #[.slice a len cap, .int .i64 k, .bool true] W (SPo nm.length nm q 0 W)) := fun W hb => (KR.out W true hb).mono fun e w' h => by rw [hqr] at h; exact SPost.po h rfl
      obtain ⟨nn, hnn⟩ : ∃ nn, nm.length = nn := ⟨_, rfl⟩
      have HNN : Hid (nm.length = nn ∧ nck nm = 0 ∧ nn ≤ 254) := ⟨hnn, g1, by rw [← hnn]; exact nck_len g1⟩
      rw [hnn] at KT
      have HG5 : Hid (∀ W a' c', Rd W a' (zs ++ ms) → len + len2 ≤ c' → c' ≤ 9223372036854775807 → Calls Try.prog 17 #[.slice a' (len + len2) c', .int .i64 k, .bool true] W (SPo nn nm q 0 W)) := fun W a' c' h1 h2 h3 => (sread_any a' (len + len2) c' k true (zs ++ ms) W h1 (by rw [List.length_append, hl, hl2]) (by omega) h2 h3).mono fun e w' h => by rw [g5 ms] at h; exact SPost.po h hnn
      have hq1 : (k : Int) < (q : Int) := by omega
      have hq2 : (q : Int) ≤ (len : Int) := by omega
      have HD2 : Hid (a2 = none → cap2 = 0) := hd2
      rcases g4 with ⟨hqf, hqz0⟩ | ⟨er', her', hqf⟩
      · have KF : Hid (∀ W, Below w.heap.size w W → Calls Try.prog 17 #[.slice a len cap, .int .i64 k, .bool false] W (SPo nn nm q 0 W)) := fun W hb => (KR.out W false hb).mono fun e w' h => by rw [hqf] at h; exact SPost.po h hnn
        obtain ⟨nz, hnz⟩ : ∃ nz, nsz nm = nz := ⟨_, rfl⟩
        rw [hnz] at hqz0
        have hqz : (q : Int) - (k : Int) = (nz : Int) := by omega
        clear hqz0
        clear KR hr hl hd hr2 hl2 hqr hqf g1 g5 hnn hg
        go_enter Try.func7, Try.ntmps7
        go_wp2_with fail
        refine KA.out.mono ?_
        rintro e w1 ⟨rfl, H1⟩
        go_wp2_with fail
        refine (KT.out w1 H1.out).mono ?_
        rintro e w2 ⟨v2, y2, rfl, H2⟩
        obtain ⟨o2, rfl, _⟩ := H2.out.1.shape
        have HB2 : Hid (Below w.heap.size w w2) := H1.out.trans (H2.out.2.2.mono H1.out.size)
        go_wp2_with fail
        refine (KF.out w2 HB2.out).mono ?_
        rintro e w3 ⟨v3, y3, rfl, H3⟩
        obtain ⟨o3, rfl, _⟩ := H3.out.1.shape
        have HB3 : Hid (Below w.heap.size w w3) := HB2.out.trans (H3.out.2.2.mono HB2.out.size)
        have HRd2 : Hid (∀ W, Below w3.heap.size w3 W → RdT W o2 nm) := fun W hW => by
          have := ((H2.out.1.below H3.out.2.2).below hW).rd nn
          rw [H2.out.2.1] at this
          exact this
        have KK : Hid (∀ W, Below w3.heap.size w3 W → Calls Try.prog 28 #[.slice o2 nn y2.length] W fun e w' => e = .returned (.int .i64 0) ∧ w' = W) := fun W hW => by
          have := pm_check y2.length ⟨HRd2.out W hW, HNN.out.1, by have := (nck_small HNN.out.2.1).1; omega⟩
          rw [HNN.out.2.1] at this
          exact this
        go_wp2_with fail
        refine (KK.out w3 (Below.refl _ _)).mono ?_
        rintro e w3b ⟨rfl, rfl⟩
        have HRd3 : Hid (∀ W, Below w3b.heap.size w3b W → RdT W o3 nm) := fun W hW => by
          have := (H3.out.1.below hW).rd nn
          rw [H3.out.2.1] at this
          exact this
        have hn63 : nn ≤ 9223372036854775807 := by have := HNN.out.2.2; omega
        go_wp2_with fail
        refine (sameN_yes o3 o2 nn _ _ nm w3b (HRd3.out _ (Below.refl _ _)) (HRd2.out _ (Below.refl _ _)) HNN.out.1 hn63).mono ?_
        rintro e w4 ⟨rfl, H4⟩
        have KZ : Hid (Calls Try.prog 29 #[.slice o2 nn y2.length] w4 fun e w' => e = .returned (.int .i64 ((nz : Nat) : Int)) ∧ w' = w4) := by
          have := psize_eq o2 nn y2.length nm w4 (HRd2.out w4 H4.out) HNN.out.1 (by have := (nck_small HNN.out.2.1).1; omega)
          rw [hnz] at this
          exact this
        go_wp2_with fail
        refine KZ.out.mono ?_
        rintro e w4b ⟨rfl, rfl⟩
        have HB4 : Hid (Below w3b.heap.size w3b w4b) := H4.out
        have HBw4 : Hid (Below w.heap.size w w4b) := HB3.out.trans (HB4.out.mono HB3.out.size)
        have KC4 := Lib.hid (KC.out w4b HBw4.out)
        go_wp2_with fail
        refine KC4.out.mono ?_
        rintro e w5 ⟨v5, y5, rfl, H5⟩
        have HBw5 : Hid (Below w.heap.size w w5) := HBw4.out.trans (H5.out.2.2.mono HBw4.out.size)
        have HR2 : Hid (Rd w5 a2 ms) := HR.out.2.2.1.below HBw5.out
        go_wp2_with (at_builtin; refine wpList_append_blk _ rfl _ _ rfl w4b.heap.size _ len y5 rfl H5.out.1 a2 len2 cap2 ms rfl HR2.out HR.out.2.2.2 hd2 (by omega) H5.out.2.2.size ?_; intro v6 w6 y6 hO6 hT6 hG6; have HB6 : Hid (Below w4b.heap.size w4b w6) := (H5.out.2.2.grown hG6 H5.out.2.2.size (fun j e => (H5.out.1.blk5 j e).1)); clear hG6; obtain ⟨o6, rfl, _⟩ := hO6.out.addr)
        have HR6 : Hid (Rd w6 o6 (zs ++ ms) ∧ len + len2 ≤ y6.length ∧ y6.length ≤ 9223372036854775807) := by
          obtain ⟨o6', e, hA⟩ := hO6.out.addr
          cases e
          have := hA.rdTake (len + len2)
          rw [hT6.out, H5.out.2.1] at this
          exact ⟨this, hA.le.1, by have := hA.le.2; unfold maxLen at this; omega⟩
        have K7 := Lib.hid (HG5.out w6 o6 y6.length HR6.out.1 HR6.out.2.1 HR6.out.2.2)
        have HBw6 : Hid (Below w.heap.size w w6 ∧ Below w3b.heap.size w3b w6) := ⟨HBw4.out.trans (HB6.out.mono HBw4.out.size), HB4.out.trans (HB6.out.mono HB4.out.size)⟩
        go_wp2_with fail
        refine K7.out.mono ?_
        rintro e w7 ⟨v7, y7, rfl, H7⟩
        obtain ⟨o7, rfl, _⟩ := H7.out.1.shape
        have HF7 : Hid (RdT w7 o7 nm ∧ RdT w7 o2 nm ∧ Below w.heap.size w w7) := by
          have h1 := H7.out.1.rd nn
          rw [H7.out.2.1] at h1
          exact ⟨h1, HRd2.out w7 (HBw6.out.2.trans (H7.out.2.2.mono HBw6.out.2.size)), HBw6.out.1.trans (H7.out.2.2.mono HBw6.out.1.size)⟩
        have hn64 : nn ≤ 9223372036854775807 := by have := HNN.out.2.2; omega
        go_wp2_with fail
        refine (sameN_yes o7 o2 nn _ _ nm w7 HF7.out.1 HF7.out.2.1 HNN.out.1 hn64).mono ?_
        rintro e w8 ⟨rfl, H8⟩
        go_wp2
        go_ret
        exact ⟨rfl, HF7.out.2.2.trans (H8.out.mono HF7.out.2.2.size)⟩
      · have KF : Hid (∀ W, Below w.heap.size w W → Calls Try.prog 17 #[.slice a len cap, .int .i64 k, .bool false] W (SPo 0 [] 0 er' W)) := fun W hb => (KR.out W false hb).mono fun e w' h => by rw [hqf] at h; exact SPost.po h rfl
        have e2 : (er' == 0) = false := by simpa using her'
        clear KR hr hl hd hr2 hl2 hqr hqf g1 g5 hnn hg her'
        go_enter Try.func7, Try.ntmps7
        go_wp2_with fail
        refine KA.out.mono ?_
        rintro e w1 ⟨rfl, H1⟩
        go_wp2_with fail
        refine (KT.out w1 H1.out).mono ?_
        rintro e w2 ⟨v2, y2, rfl, H2⟩
        obtain ⟨o2, rfl, _⟩ := H2.out.1.shape
        have HB2 : Hid (Below w.heap.size w w2) := H1.out.trans (H2.out.2.2.mono H1.out.size)
        go_wp2_with fail
        refine (KF.out w2 HB2.out).mono ?_
        rintro e w3 ⟨v3, y3, rfl, H3⟩
        obtain ⟨o3, rfl, _⟩ := H3.out.1.shape
        have HB3 : Hid (Below w.heap.size w w3) := HB2.out.trans (H3.out.2.2.mono HB2.out.size)
        have HRd2 : Hid (∀ W, Below w3.heap.size w3 W → RdT W o2 nm) := fun W hW => by
          have := ((H2.out.1.below H3.out.2.2).below hW).rd nn
          rw [H2.out.2.1] at this
          exact this
        have KK : Hid (∀ W, Below w3.heap.size w3 W → Calls Try.prog 28 #[.slice o2 nn y2.length] W fun e w' => e = .returned (.int .i64 0) ∧ w' = W) := fun W hW => by
          have := pm_check y2.length ⟨HRd2.out W hW, HNN.out.1, by have := (nck_small HNN.out.2.1).1; omega⟩
          rw [HNN.out.2.1] at this
          exact this
        go_wp2_with fail
        refine (KK.out w3 (Below.refl _ _)).mono ?_
        rintro e w3b ⟨rfl, rfl⟩
        have HB4 : Hid (Below w3b.heap.size w3b w3b) := Below.refl _ _
        have HBw4 : Hid (Below w.heap.size w w3b) := HB3.out.trans (HB4.out.mono HB3.out.size)
        have KC4 := Lib.hid (KC.out w3b HBw4.out)
        go_wp2_with fail
        refine KC4.out.mono ?_
        rintro e w5 ⟨v5, y5, rfl, H5⟩
        have HBw5 : Hid (Below w.heap.size w w5) := HBw4.out.trans (H5.out.2.2.mono HBw4.out.size)
        have HR2 : Hid (Rd w5 a2 ms) := HR.out.2.2.1.below HBw5.out
        go_wp2_with (at_builtin; refine wpList_append_blk _ rfl _ _ rfl w3b.heap.size _ len y5 rfl H5.out.1 a2 len2 cap2 ms rfl HR2.out HR.out.2.2.2 hd2 (by omega) H5.out.2.2.size ?_; intro v6 w6 y6 hO6 hT6 hG6; have HB6 : Hid (Below w3b.heap.size w3b w6) := (H5.out.2.2.grown hG6 H5.out.2.2.size (fun j e => (H5.out.1.blk5 j e).1)); clear hG6; obtain ⟨o6, rfl, _⟩ := hO6.out.addr)
        have HR6 : Hid (Rd w6 o6 (zs ++ ms) ∧ len + len2 ≤ y6.length ∧ y6.length ≤ 9223372036854775807) := by
          obtain ⟨o6', e, hA⟩ := hO6.out.addr
          cases e
          have := hA.rdTake (len + len2)
          rw [hT6.out, H5.out.2.1] at this
          exact ⟨this, hA.le.1, by have := hA.le.2; unfold maxLen at this; omega⟩
        have K7 := Lib.hid (HG5.out w6 o6 y6.length HR6.out.1 HR6.out.2.1 HR6.out.2.2)
        have HBw6 : Hid (Below w.heap.size w w6 ∧ Below w3b.heap.size w3b w6) := ⟨HBw4.out.trans (HB6.out.mono HBw4.out.size), HB4.out.trans (HB6.out.mono HB4.out.size)⟩
        go_wp2_with fail
        refine K7.out.mono ?_
        rintro e w7 ⟨v7, y7, rfl, H7⟩
        obtain ⟨o7, rfl, _⟩ := H7.out.1.shape
        have HF7 : Hid (RdT w7 o7 nm ∧ RdT w7 o2 nm ∧ Below w.heap.size w w7) := by
          have h1 := H7.out.1.rd nn
          rw [H7.out.2.1] at h1
          exact ⟨h1, HRd2.out w7 (HBw6.out.2.trans (H7.out.2.2.mono HBw6.out.2.size)), HBw6.out.1.trans (H7.out.2.2.mono HBw6.out.1.size)⟩
        have hn64 : nn ≤ 9223372036854775807 := by have := HNN.out.2.2; omega
        go_wp2_with fail
        refine (sameN_yes o7 o2 nn _ _ nm w7 HF7.out.1 HF7.out.2.1 HNN.out.1 hn64).mono ?_
        rintro e w8 ⟨rfl, H8⟩
        go_wp2
        go_ret
        exact ⟨rfl, HF7.out.2.2.trans (H8.out.mono HF7.out.2.2.size)⟩
    · obtain ⟨er', her', hqf⟩ := qread_bad her hqr
      have KT : Hid (∀ W, Below w.heap.size w W → Calls Try.prog 17 #[.slice a len cap, .int .i64 d, .bool true] W (SPo 0 [] 0 er W)) := fun W hb => (KR.out W true hb).mono fun e w' h => by rw [hqr] at h; exact SPost.po h rfl
      have KF : Hid (∀ W, Below w.heap.size w W → Calls Try.prog 17 #[.slice a len cap, .int .i64 d, .bool false] W (SPo 0 [] 0 er' W)) := fun W hb => (KR.out W false hb).mono fun e w' h => by rw [hqf] at h; exact SPost.po h rfl
      have e1 : (er != 0) = true := by simpa using her
      have e2 : (er' != 0) = true := by simpa using her'
      clear KR KC hr hl hd hr2 hl2 hd2 hqr hqf her her'
      go_enter Try.func7, Try.ntmps7
      go_wp2_with fail
      refine KA.out.mono ?_
      rintro e w1 ⟨rfl, H1⟩
      go_wp2_with fail
      refine (KT.out w1 H1.out).mono ?_
      rintro e w2 ⟨v2, y2, rfl, H2⟩
      obtain ⟨o2, rfl, _⟩ := H2.out.1.shape
      have HB2 : Hid (Below w.heap.size w w2) := H1.out.trans (H2.out.2.2.mono H1.out.size)
      go_wp2_with fail
      refine (KF.out w2 HB2.out).mono ?_
      rintro e w3 ⟨v3, y3, rfl, H3⟩
      have HB3 : Hid (Below w.heap.size w w3) := HB2.out.trans (H3.out.2.2.mono HB2.out.size)
      go_wp2
      go_ret
      exact ⟨rfl, HB3.out⟩
end Go.Proofs.Ytfnpiknobmecbaa
