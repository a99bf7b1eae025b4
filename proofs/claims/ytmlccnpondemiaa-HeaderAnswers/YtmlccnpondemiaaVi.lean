/- HeaderBack's walk. -/
import Derived.Test.YtmlccnpondemiaaVh
import Derived.Lib.Hide
namespace Go.Proofs.Ytmlccnpondemiaa
open Go.ChangeShapes Go.WideShapes Go.ChangeAt Go.RowKit
set_option linter.unusedVariables false
set_option linter.unusedSimpArgs false

theorem read_back (id o r : Nat) (rs aa tc rd ra ad cd : Bool) (C0 C1 C2 C3 : Nat) (hi : id < 65536) (ho : o < 16) (hr : r < 16) (h0 : C0 < 65536) (h1 : C1 < 65536) (h2 : C2 < 65536) (h3 : C3 < 65536) (g : Nat) (W : World)
    (hb : Blk W g (b16s (nsL id (packN o r rs aa tc rd ra ad cd : Nat) C0 C1 C2 C3))) :
    Calls Try.prog 18 #[.slice (some ⟨g, 0, none⟩) 12 12] W fun e w' => e = .returned (.tuple #[.agg #[.int .u16 (id : Int), .bool rs, .int .i64 (o : Int), .bool aa, .bool tc, .bool rd, .bool ra, .bool ad, .bool cd, .int .i64 (r : Int), .slice none 0 0, .slice none 0 0, .slice none 0 0, .slice none 0 0], .agg #[.int .i64 (C0 : Int), .int .i64 (C1 : Int), .int .i64 (C2 : Int), .int .i64 (C3 : Int)], .int .i64 0]) ∧ Below W.heap.size W w' := by
  have hF := packN_lt ho hr rs aa tc rd ra ad cd
  have hU := un_pack ho hr rs aa tc rd ra ad cd _ rfl
  generalize packN o r rs aa tc rd ra ad cd = F at *
  obtain ⟨v0, v1, v2, v3, v4, v5⟩ := nv_b16s id F C0 C1 C2 C3 hi hF h0 h1 h2 h3
  have hlen : (b16s (nsL id F C0 C1 C2 C3)).length = 12 := b16s_len _
  have hrd : Rd W (some ⟨g, 0, none⟩) (b16s (nsL id F C0 C1 C2 C3)) := by
    have := hb.rd 12
    rwa [List.take_of_length_le (by rw [hlen]; exact Nat.le_refl _)] at this
  refine (read18 (some ⟨g, 0, none⟩) 12 12 _ W hrd hlen (by omega) (by omega)).mono ?_
  rintro e w' ⟨_, h, hB⟩
  refine ⟨?_, hB⟩
  rw [v0, v1, v2, v3, v4, v5, hlen] at h
  obtain ⟨u1, u2, u3, u4, u5, u6, u7, u8, u9, u10⟩ := hU
  rw [h (by rw [u3]; simp)]
  simp only [msgU, u1, u2, u4, u5, u6, u7, u8, u9, u10]
theorem bytes_back (zs : List Int) (h : 12 ≤ zs.length) (hz : ∀ z ∈ zs, 0 ≤ z ∧ z ≤ 255) (I F C0 C1 C2 C3 : Nat) (v0 : nv zs 0 = I) (v1 : nv zs 1 = F) (v2 : nv zs 2 = C0) (v3 : nv zs 3 = C1) (v4 : nv zs 4 = C2) (v5 : nv zs 5 = C3) (hu : unfl F 64 = false) (W : World) :
    Calls Try.prog 10 #[.agg #[.int .u16 (I : Int), .bool (unfl F 32768), .int .i64 (unop F : Nat), .bool (unfl F 1024), .bool (unfl F 512), .bool (unfl F 256), .bool (unfl F 128), .bool (unfl F 32), .bool (unfl F 16), .int .i64 (unrc F : Nat), .slice none 0 0, .slice none 0 0, .slice none 0 0, .slice none 0 0], .agg #[.int .i64 (C0 : Int), .int .i64 (C1 : Int), .int .i64 (C2 : Int), .int .i64 (C3 : Int)]] W fun e w' => ∃ g, e = .returned (.tuple #[.slice (some ⟨g, 0, none⟩) 12 12, .int .i64 0]) ∧ Hid (Blk w' g (zs.take 12) ∧ Below W.heap.size W w') := by
  have b0 := (nv_val hz 0).2
  have b1 := (nv_val hz 1).2
  have b2 := (nv_val hz 2).2
  have b3 := (nv_val hz 3).2
  have b4 := (nv_val hz 4).2
  have b5 := (nv_val hz 5).2
  have hbk := b16s_nv h hz
  rw [v0] at b0 hbk
  rw [v1] at b1 hbk
  rw [v2] at b2 hbk
  rw [v3] at b3 hbk
  rw [v4] at b4 hbk
  rw [v5] at b5 hbk
  have hp : packN (unop F) (unrc F) (unfl F 32768) (unfl F 1024) (unfl F 512) (unfl F 256) (unfl F 128) (unfl F 32) (unfl F 16) = F := pack_un F b1 hu
  refine (bytes10 I (unfl F 32768) (unop F) (unfl F 1024) (unfl F 512) (unfl F 256) (unfl F 128) (unfl F 32) (unfl F 16) (unrc F) none none none none 0 0 0 0 0 0 0 0 C0 C1 C2 C3 W b0 (by unfold unop; omega) (by unfold unrc; omega)).mono ?_
  rintro e w' ⟨h1, _, hB⟩
  rw [hp] at h1
  obtain ⟨g, he, hg, hblk⟩ := h1 (by
    intro m hm
    simp only [nsL, List.mem_cons, List.not_mem_nil, or_false] at hm
    unfold okN
    omega)
  rw [hbk] at hblk
  exact ⟨g, he, hblk, hB⟩

set_option maxRecDepth 100000 in
set_option maxHeartbeats 8000000 in
theorem backL (id : Nat) (rs : Bool) (op : Int) (aa tc rd ra ad cd : Bool) (rc : Int) (a1 a2 a3 a4 : Option Addr) (n1 n2 n3 n4 k1 k2 k3 k4 : Nat) (c0 c1 c2 c3 : Int) (a : Option Addr) (len cap : Nat) (zs : List Int) (w : World)
    (hi : id < 65536) (hr : Rd w a zs) (hl : zs.length = len) (hc : len ≤ cap) (hm : cap ≤ 9223372036854775807) :
    Calls Try.prog 5 #[.agg #[.int .u16 (id : Int), .bool rs, .int .i64 op, .bool aa, .bool tc, .bool rd, .bool ra, .bool ad, .bool cd, .int .i64 rc, .slice a1 n1 k1, .slice a2 n2 k2, .slice a3 n3 k3, .slice a4 n4 k4], .agg #[.int .i64 c0, .int .i64 c1, .int .i64 c2, .int .i64 c3], .slice a len cap] w fun e w' => e = .returned (.bool true) ∧ Below w.heap.size w w' := by
  have HR : Hid (Rd w a zs) := hr
  have HL : Hid (zs.length = len) := hl
  clear hr hl
  have heq := equalA
  go_enter Try.func5, Try.ntmps5
  go_wp2_with fail
  refine (awake21 _).mono ?_
  rintro e w1 ⟨rfl, hb1⟩
  have HM1 : Hid (Below w.heap.size w w1 ∧ w1.heap[w.heap.size]? = some (.cells #[.int .u16 (id : Int), .bool rs, .int .i64 op, .bool aa, .bool tc, .bool rd, .bool ra, .bool ad, .bool cd, .int .i64 rc, .slice a1 n1 k1, .slice a2 n2 k2, .slice a3 n3 k3, .slice a4 n4 k4] 26) ∧ w1.heap[w.heap.size + 1]? = some (.cells #[.int .i64 c0, .int .i64 c1, .int .i64 c2, .int .i64 c3] 27)) := by
    refine ⟨(((Below.refl _ _).alloc (Nat.le_refl _) _).alloc (by simp) _).trans (hb1.mono (by simp; omega)), (hb1.block _ (by simp; omega)).trans (block_alloc (alloc_at _ _) _), (hb1.block _ (by simp)).trans ?_⟩
    have := alloc_at (w.alloc (.cells #[.int .u16 (id : Int), .bool rs, .int .i64 op, .bool aa, .bool tc, .bool rd, .bool ra, .bool ad, .bool cd, .int .i64 rc, .slice a1 n1 k1, .slice a2 n2 k2, .slice a3 n3 k3, .slice a4 n4 k4] 26)) (.cells #[.int .i64 c0, .int .i64 c1, .int .i64 c2, .int .i64 c3] 27)
    simp only [World.size_alloc] at this
    exact this
  clear hb1
  have p0 := block_lt HM1.out.2.1
  have p1 := block_lt HM1.out.2.2
  have x0 : w1.cell? ⟨w.heap.size, 0, none⟩ = some (.int .u16 (id : Int)) := cell_of_block HM1.out.2.1 rfl
  have x1 : w1.cell? ⟨w.heap.size, 1, none⟩ = some (.bool rs) := cell_of_block HM1.out.2.1 rfl
  have x2 : w1.cell? ⟨w.heap.size, 2, none⟩ = some (.int .i64 op) := cell_of_block HM1.out.2.1 rfl
  have x3 : w1.cell? ⟨w.heap.size, 3, none⟩ = some (.bool aa) := cell_of_block HM1.out.2.1 rfl
  have x4 : w1.cell? ⟨w.heap.size, 4, none⟩ = some (.bool tc) := cell_of_block HM1.out.2.1 rfl
  have x5 : w1.cell? ⟨w.heap.size, 5, none⟩ = some (.bool rd) := cell_of_block HM1.out.2.1 rfl
  have x6 : w1.cell? ⟨w.heap.size, 6, none⟩ = some (.bool ra) := cell_of_block HM1.out.2.1 rfl
  have x7 : w1.cell? ⟨w.heap.size, 7, none⟩ = some (.bool ad) := cell_of_block HM1.out.2.1 rfl
  have x8 : w1.cell? ⟨w.heap.size, 8, none⟩ = some (.bool cd) := cell_of_block HM1.out.2.1 rfl
  have x9 : w1.cell? ⟨w.heap.size, 9, none⟩ = some (.int .i64 rc) := cell_of_block HM1.out.2.1 rfl
  have x10 : w1.cell? ⟨w.heap.size, 10, none⟩ = some (.slice a1 n1 k1) := cell_of_block HM1.out.2.1 rfl
  have x11 : w1.cell? ⟨w.heap.size, 11, none⟩ = some (.slice a2 n2 k2) := cell_of_block HM1.out.2.1 rfl
  have x12 : w1.cell? ⟨w.heap.size, 12, none⟩ = some (.slice a3 n3 k3) := cell_of_block HM1.out.2.1 rfl
  have x13 : w1.cell? ⟨w.heap.size, 13, none⟩ = some (.slice a4 n4 k4) := cell_of_block HM1.out.2.1 rfl
  have y0 : w1.cell? ⟨w.heap.size + 1, 0, none⟩ = some (.int .i64 c0) := cell_of_block HM1.out.2.2 rfl
  have y1 : w1.cell? ⟨w.heap.size + 1, 1, none⟩ = some (.int .i64 c1) := cell_of_block HM1.out.2.2 rfl
  have y2 : w1.cell? ⟨w.heap.size + 1, 2, none⟩ = some (.int .i64 c2) := cell_of_block HM1.out.2.2 rfl
  have y3 : w1.cell? ⟨w.heap.size + 1, 3, none⟩ = some (.int .i64 c3) := cell_of_block HM1.out.2.2 rfl
  by_cases hf : 0 ≤ op ∧ op ≤ 15 ∧ 0 ≤ rc ∧ rc ≤ 15
  · obtain ⟨o, rfl⟩ : ∃ o : Nat, op = (o : Int) := ⟨op.toNat, by omega⟩
    obtain ⟨r, rfl⟩ : ∃ r : Nat, rc = (r : Int) := ⟨rc.toNat, by omega⟩
    have ho : o < 16 := by omega
    have hr16 : r < 16 := by omega
    clear hf
    have KB := fun W => Lib.hid (bytes10 id rs o aa tc rd ra ad cd r a1 a2 a3 a4 n1 n2 n3 n4 k1 k2 k3 k4 c0 c1 c2 c3 W hi ho hr16)
    by_cases hk : okN c0 ∧ okN c1 ∧ okN c2 ∧ okN c3
    · obtain ⟨⟨u0, t0⟩, ⟨u1, t1⟩, ⟨u2, t2⟩, ⟨u3, t3⟩⟩ := hk
      obtain ⟨C0, rfl⟩ : ∃ C : Nat, c0 = (C : Int) := ⟨c0.toNat, by omega⟩
      obtain ⟨C1, rfl⟩ : ∃ C : Nat, c1 = (C : Int) := ⟨c1.toNat, by omega⟩
      obtain ⟨C2, rfl⟩ : ∃ C : Nat, c2 = (C : Int) := ⟨c2.toNat, by omega⟩
      obtain ⟨C3, rfl⟩ : ∃ C : Nat, c3 = (C : Int) := ⟨c3.toNat, by omega⟩
      have KB' : ∀ W, Hid (Calls Try.prog 10 #[.agg #[.int .u16 (id : Int), .bool rs, .int .i64 (o : Int), .bool aa, .bool tc, .bool rd, .bool ra, .bool ad, .bool cd, .int .i64 (r : Int), .slice a1 n1 k1, .slice a2 n2 k2, .slice a3 n3 k3, .slice a4 n4 k4], .agg #[.int .i64 (C0 : Int), .int .i64 (C1 : Int), .int .i64 (C2 : Int), .int .i64 (C3 : Int)]] W fun e w' => ∃ g, e = .returned (.tuple #[.slice (some ⟨g, 0, none⟩) 12 12, .int .i64 0]) ∧ Hid (Blk w' g (b16s (nsL id (packN o r rs aa tc rd ra ad cd : Nat) C0 C1 C2 C3)) ∧ Below W.heap.size W w')) := fun W => (KB W).out.mono (by
        rintro e w' ⟨h, _, hb⟩
        have hF := packN_lt ho hr16 rs aa tc rd ra ad cd
        obtain ⟨g, he, hg, hblk⟩ := h (by
          intro m hm
          simp only [nsL, List.mem_cons, List.not_mem_nil, or_false] at hm
          unfold okN
          omega)
        exact ⟨g, he, hblk, hb⟩)
      clear KB
      go_wp2_with fail
      refine (KB' _).out.mono ?_
      rintro e w2 ⟨g, rfl, H2⟩
      have HM2 : Hid (Below w.heap.size w w2 ∧ w2.heap[w.heap.size]? = some (.cells #[.int .u16 (id : Int), .bool rs, .int .i64 (o : Int), .bool aa, .bool tc, .bool rd, .bool ra, .bool ad, .bool cd, .int .i64 (r : Int), .slice a1 n1 k1, .slice a2 n2 k2, .slice a3 n3 k3, .slice a4 n4 k4] 26) ∧ w2.heap[w.heap.size + 1]? = some (.cells #[.int .i64 (C0 : Int), .int .i64 (C1 : Int), .int .i64 (C2 : Int), .int .i64 (C3 : Int)] 27)) := ⟨HM1.out.1.trans (H2.out.2.mono HM1.out.1.size), (H2.out.2.block _ p0).trans HM1.out.2.1, (H2.out.2.block _ p1).trans HM1.out.2.2⟩
      have KR := Lib.hid (read_back id o r rs aa tc rd ra ad cd C0 C1 C2 C3 hi ho hr16 (by omega) (by omega) (by omega) (by omega) g w2 H2.out.1)
      go_wp2_with fail
      refine KR.out.mono ?_
      rintro e w3 ⟨rfl, hb3⟩
      have HM3 : Hid (Below w.heap.size w w3 ∧ w3.heap[w.heap.size]? = some (.cells #[.int .u16 (id : Int), .bool rs, .int .i64 (o : Int), .bool aa, .bool tc, .bool rd, .bool ra, .bool ad, .bool cd, .int .i64 (r : Int), .slice a1 n1 k1, .slice a2 n2 k2, .slice a3 n3 k3, .slice a4 n4 k4] 26) ∧ w3.heap[w.heap.size + 1]? = some (.cells #[.int .i64 (C0 : Int), .int .i64 (C1 : Int), .int .i64 (C2 : Int), .int .i64 (C3 : Int)] 27)) := ⟨HM2.out.1.trans (hb3.mono HM2.out.1.size), (hb3.block _ (block_lt HM2.out.2.1)).trans HM2.out.2.1, (hb3.block _ (block_lt HM2.out.2.2)).trans HM2.out.2.2⟩
      clear hb3
      have s0 := block_lt HM3.out.2.1
      have s1 := block_lt HM3.out.2.2
      have v0 : w3.cell? ⟨w.heap.size, 0, none⟩ = some (.int .u16 (id : Int)) := cell_of_block HM3.out.2.1 rfl
      have v1 : w3.cell? ⟨w.heap.size, 1, none⟩ = some (.bool rs) := cell_of_block HM3.out.2.1 rfl
      have v2 : w3.cell? ⟨w.heap.size, 2, none⟩ = some (.int .i64 (o : Int)) := cell_of_block HM3.out.2.1 rfl
      have v3 : w3.cell? ⟨w.heap.size, 3, none⟩ = some (.bool aa) := cell_of_block HM3.out.2.1 rfl
      have v4 : w3.cell? ⟨w.heap.size, 4, none⟩ = some (.bool tc) := cell_of_block HM3.out.2.1 rfl
      have v5 : w3.cell? ⟨w.heap.size, 5, none⟩ = some (.bool rd) := cell_of_block HM3.out.2.1 rfl
      have v6 : w3.cell? ⟨w.heap.size, 6, none⟩ = some (.bool ra) := cell_of_block HM3.out.2.1 rfl
      have v7 : w3.cell? ⟨w.heap.size, 7, none⟩ = some (.bool ad) := cell_of_block HM3.out.2.1 rfl
      have v8 : w3.cell? ⟨w.heap.size, 8, none⟩ = some (.bool cd) := cell_of_block HM3.out.2.1 rfl
      have v9 : w3.cell? ⟨w.heap.size, 9, none⟩ = some (.int .i64 (r : Int)) := cell_of_block HM3.out.2.1 rfl
      have v10 : w3.cell? ⟨w.heap.size, 10, none⟩ = some (.slice a1 n1 k1) := cell_of_block HM3.out.2.1 rfl
      have v11 : w3.cell? ⟨w.heap.size, 11, none⟩ = some (.slice a2 n2 k2) := cell_of_block HM3.out.2.1 rfl
      have v12 : w3.cell? ⟨w.heap.size, 12, none⟩ = some (.slice a3 n3 k3) := cell_of_block HM3.out.2.1 rfl
      have v13 : w3.cell? ⟨w.heap.size, 13, none⟩ = some (.slice a4 n4 k4) := cell_of_block HM3.out.2.1 rfl
      have q0 : w3.cell? ⟨w.heap.size + 1, 0, none⟩ = some (.int .i64 (C0 : Int)) := cell_of_block HM3.out.2.2 rfl
      have q1 : w3.cell? ⟨w.heap.size + 1, 1, none⟩ = some (.int .i64 (C1 : Int)) := cell_of_block HM3.out.2.2 rfl
      have q2 : w3.cell? ⟨w.heap.size + 1, 2, none⟩ = some (.int .i64 (C2 : Int)) := cell_of_block HM3.out.2.2 rfl
      have q3 : w3.cell? ⟨w.heap.size + 1, 3, none⟩ = some (.int .i64 (C3 : Int)) := cell_of_block HM3.out.2.2 rfl
      have f10 : w3.frozen? ⟨w.heap.size, 10, none⟩ = false := frozen_of_block HM3.out.2.1
      have f11 : w3.frozen? ⟨w.heap.size, 11, none⟩ = false := frozen_of_block HM3.out.2.1
      have f12 : w3.frozen? ⟨w.heap.size, 12, none⟩ = false := frozen_of_block HM3.out.2.1
      have f13 : w3.frozen? ⟨w.heap.size, 13, none⟩ = false := frozen_of_block HM3.out.2.1
      go_wp2_with fail
      refine (sameM (id : Int) rs (o : Int) aa tc rd ra ad cd (r : Int) none none none none none none none none 0 0 0 0 0 0 0 0 0 0 0 0 0 0 0 0 _ (sames33_nil _) (sames34_nil _) (sames34_nil _) (sames34_nil _)).mono ?_
      rintro e w4 ⟨rfl, hb4⟩
      have HBW : Hid (Below w.heap.size w w4) := by
        refine Below.trans ?_ (hb4.mono ?_)
        · refine Below.alloc (Below.alloc ?_ ?_ _) ?_ _
          · iterate 4 refine Below.setCell ?_ (by simp) _
            exact HM3.out.1
          · have := HM3.out.1.size; simp; omega
          · have := HM3.out.1.size; simp; omega
        · have := HM3.out.1.size; simp; omega
      clear hb4 HM3 HM2 H2 HM1
      have HRW : Hid (Rd w4 a zs) := HR.out.below HBW.out
      rcases Nat.lt_or_ge len 12 with h12 | h12
      · have KR : Hid (Calls Try.prog 18 #[.slice a len cap] w4 fun e w' => e = .returned (.tuple #[.agg #[.int .u16 0, .bool false, .int .i64 0, .bool false, .bool false, .bool false, .bool false, .bool false, .bool false, .int .i64 0, .slice none 0 0, .slice none 0 0, .slice none 0 0, .slice none 0 0], .agg #[.int .i64 0, .int .i64 0, .int .i64 0, .int .i64 0], .int .i64 8]) ∧ Hid (Below w4.heap.size w4 w')) := (read18 a len cap zs w4 HRW.out HL.out hc hm).mono (by
          rintro e w' ⟨h, _, hb⟩
          exact ⟨h (.inl (by rw [HL.out]; exact h12)), hb⟩)
        have h12' : (len : Int) < 12 := by omega
        go_wp2_with fail
        refine KR.out.mono ?_
        rintro e w5 ⟨rfl, HB5⟩
        go_wp2
        go_ret
        exact ⟨rfl, ((HBW.out.trans (HB5.out.mono HBW.out.size)).alloc (Nat.le_trans HBW.out.size HB5.out.size) _).alloc (by have := Nat.le_trans HBW.out.size HB5.out.size; simp; omega) _⟩
      · have hzl : 12 ≤ zs.length := by rw [HL.out]; exact h12
        have HZL : Hid (12 ≤ zs.length) := hzl
        clear hzl
        have h12' : ¬ (len : Int) < 12 := by omega
        obtain ⟨b, o9, rfl, hbl, hcl⟩ : ∃ b o, a = some ⟨b, o, none⟩ ∧ b < w.heap.size ∧ ∀ i, i < zs.length → w.cell? ⟨b, o + i, none⟩ = some (.int .u8 (zs.getD i 0)) := by
          rcases HR.out.1 with h | ⟨b, o, h1, h2, h3⟩
          · have := HZL.out; subst h; simp at this
          · exact ⟨b, o, h1, h2, h3⟩
        cases hq : unfl (nv zs 1) 64
        · have KR : Hid (Calls Try.prog 18 #[.slice (some ⟨b, o9, none⟩) len cap] w4 fun e w' => e = .returned (.tuple #[.agg (msgU (nv zs 0) (nv zs 1)), .agg #[.int .i64 (nv zs 2 : Int), .int .i64 (nv zs 3 : Int), .int .i64 (nv zs 4 : Int), .int .i64 (nv zs 5 : Int)], .int .i64 0]) ∧ Hid (Below w4.heap.size w4 w')) := (read18 _ len cap zs w4 HRW.out HL.out hc hm).mono (by
            rintro e w' ⟨_, h, hb⟩
            refine ⟨h ?_, hb⟩
            rw [HL.out, hq]
            intro h'
            rcases h' with h' | h'
            · omega
            · cases h')
          have KB := fun I F C0 C1 C2 C3 v0 v1 v2 v3 v4 v5 hu W => Lib.hid (bytes_back zs HZL.out HR.out.2 I F C0 C1 C2 C3 v0 v1 v2 v3 v4 v5 hu W)
          obtain ⟨I, v0⟩ : ∃ x, nv zs 0 = x := ⟨_, rfl⟩
          obtain ⟨F, v1⟩ : ∃ x, nv zs 1 = x := ⟨_, rfl⟩
          obtain ⟨D0, v2⟩ : ∃ x, nv zs 2 = x := ⟨_, rfl⟩
          obtain ⟨D1, v3⟩ : ∃ x, nv zs 3 = x := ⟨_, rfl⟩
          obtain ⟨D2, v4⟩ : ∃ x, nv zs 4 = x := ⟨_, rfl⟩
          obtain ⟨D3, v5⟩ : ∃ x, nv zs 5 = x := ⟨_, rfl⟩
          rw [v0, v1, v2, v3, v4, v5] at KR
          simp only [msgU] at KR
          rw [v1] at hq
          have KB' := KB I F D0 D1 D2 D3 v0 v1 v2 v3 v4 v5 hq
          clear KB v0 v1 v2 v3 v4 v5
          go_wp2_with fail
          refine KR.out.mono ?_
          rintro e w5 ⟨rfl, HB5⟩
          have HB6 : Hid (Below w.heap.size w w5) := HBW.out.trans (HB5.out.mono HBW.out.size)
          go_wp2_with fail
          refine (KB' _).out.mono ?_
          rintro e w6 ⟨g6, rfl, H6⟩
          have HB7 : Hid (Below w.heap.size w w6) := ((HB6.out.alloc HB6.out.size _).alloc (by have := HB6.out.size; simp; omega) _).trans (H6.out.2.mono (by have := HB6.out.size; simp; omega))
          have hcut : ∀ cc, Hid (Calls Try.prog 12 #[.slice (some ⟨g6, 0, none⟩) 12 12, .slice (some ⟨b, o9, none⟩) 12 cc] w6 fun e w' => e = .returned (.bool true) ∧ w' = w6) := fun cc => same_yes (some ⟨g6, 0, none⟩) (some ⟨b, o9, none⟩) 12 12 cc (zs.take 12) w6 (by
            have := H6.out.1.rd 12
            rwa [List.take_take, Nat.min_self] at this) ((HR.out.below HB7.out).cut 0 12 (by have := HZL.out; omega) (fun _ b o e => by rw [e]; rfl)) (by simp; have := HZL.out; omega)
          have hcap : 12 ≤ cap := by omega
          go_wp2_with fail
          refine (hcut _).out.mono ?_
          rintro e w7 ⟨rfl, rfl⟩
          go_wp2
          go_ret
          exact ⟨rfl, HB7.out⟩
        · have KR : Hid (Calls Try.prog 18 #[.slice (some ⟨b, o9, none⟩) len cap] w4 fun e w' => e = .returned (.tuple #[.agg #[.int .u16 0, .bool false, .int .i64 0, .bool false, .bool false, .bool false, .bool false, .bool false, .bool false, .int .i64 0, .slice none 0 0, .slice none 0 0, .slice none 0 0, .slice none 0 0], .agg #[.int .i64 0, .int .i64 0, .int .i64 0, .int .i64 0], .int .i64 8]) ∧ Hid (Below w4.heap.size w4 w')) := (read18 _ len cap zs w4 HRW.out HL.out hc hm).mono (by
            rintro e w' ⟨h, _, hb⟩
            exact ⟨h (.inr hq), hb⟩)
          have h64 := bit64 HZL.out HR.out.2 hq
          have c3' := hcl 3 (by have := HZL.out; omega)
          generalize zs.getD 3 0 = z3 at h64 c3'
          have HC3 : Hid (w.cell? ⟨b, o9 + 3, none⟩ = some (.int .u8 z3)) := c3'
          clear hcl c3'
          have h3l : (3 : Int) < (len : Int) := by omega
          go_wp2_with fail
          refine KR.out.mono ?_
          rintro e w5 ⟨rfl, HB5⟩
          have HB6 : Hid (Below w.heap.size w w5) := HBW.out.trans (HB5.out.mono HBW.out.size)
          have c5 : w5.cell? ⟨b, o9 + 3, none⟩ = some (.int .u8 z3) := (HB6.out.cell (p := ⟨b, o9 + 3, none⟩) hbl).trans HC3.out
          have hb5 : b < w5.heap.size := Nat.lt_of_lt_of_le hbl HB6.out.size
          go_wp2
          go_ret
          exact ⟨rfl, (HB6.out.alloc HB6.out.size _).alloc (by have := HB6.out.size; simp; omega) _⟩
    · have KB' : ∀ W, Hid (Calls Try.prog 10 #[.agg #[.int .u16 (id : Int), .bool rs, .int .i64 (o : Int), .bool aa, .bool tc, .bool rd, .bool ra, .bool ad, .bool cd, .int .i64 (r : Int), .slice a1 n1 k1, .slice a2 n2 k2, .slice a3 n3 k3, .slice a4 n4 k4], .agg #[.int .i64 c0, .int .i64 c1, .int .i64 c2, .int .i64 c3]] W fun e w' => e = .returned (.tuple #[.slice none 0 0, .int .i64 2]) ∧ Hid (Below W.heap.size W w')) := fun W => (KB W).out.mono (by
        rintro e w' ⟨_, h, hb⟩
        refine ⟨h ?_, hb⟩
        intro hall
        exact hk ⟨hall _ (by simp [nsL]), hall _ (by simp [nsL]), hall _ (by simp [nsL]), hall _ (by simp [nsL])⟩)
      clear KB
      go_wp2_with fail
      refine (KB' _).out.mono ?_
      rintro e w2 ⟨rfl, H2⟩
      have HBW : Hid (Below w.heap.size w w2) := HM1.out.1.trans (H2.out.mono HM1.out.1.size)
      clear H2 HM1
      have HRW : Hid (Rd w2 a zs) := HR.out.below HBW.out
      rcases Nat.lt_or_ge len 12 with h12 | h12
      · have KR : Hid (Calls Try.prog 18 #[.slice a len cap] w2 fun e w' => e = .returned (.tuple #[.agg #[.int .u16 0, .bool false, .int .i64 0, .bool false, .bool false, .bool false, .bool false, .bool false, .bool false, .int .i64 0, .slice none 0 0, .slice none 0 0, .slice none 0 0, .slice none 0 0], .agg #[.int .i64 0, .int .i64 0, .int .i64 0, .int .i64 0], .int .i64 8]) ∧ Hid (Below w2.heap.size w2 w')) := (read18 a len cap zs w2 HRW.out HL.out hc hm).mono (by
          rintro e w' ⟨h, _, hb⟩
          exact ⟨h (.inl (by rw [HL.out]; exact h12)), hb⟩)
        have h12' : (len : Int) < 12 := by omega
        go_wp2_with fail
        refine KR.out.mono ?_
        rintro e w5 ⟨rfl, HB5⟩
        go_wp2
        go_ret
        exact ⟨rfl, ((HBW.out.trans (HB5.out.mono HBW.out.size)).alloc (Nat.le_trans HBW.out.size HB5.out.size) _).alloc (by have := Nat.le_trans HBW.out.size HB5.out.size; simp; omega) _⟩
      · have hzl : 12 ≤ zs.length := by rw [HL.out]; exact h12
        have HZL : Hid (12 ≤ zs.length) := hzl
        clear hzl
        have h12' : ¬ (len : Int) < 12 := by omega
        obtain ⟨b, o9, rfl, hbl, hcl⟩ : ∃ b o, a = some ⟨b, o, none⟩ ∧ b < w.heap.size ∧ ∀ i, i < zs.length → w.cell? ⟨b, o + i, none⟩ = some (.int .u8 (zs.getD i 0)) := by
          rcases HR.out.1 with h | ⟨b, o, h1, h2, h3⟩
          · have := HZL.out; subst h; simp at this
          · exact ⟨b, o, h1, h2, h3⟩
        cases hq : unfl (nv zs 1) 64
        · have KR : Hid (Calls Try.prog 18 #[.slice (some ⟨b, o9, none⟩) len cap] w2 fun e w' => e = .returned (.tuple #[.agg (msgU (nv zs 0) (nv zs 1)), .agg #[.int .i64 (nv zs 2 : Int), .int .i64 (nv zs 3 : Int), .int .i64 (nv zs 4 : Int), .int .i64 (nv zs 5 : Int)], .int .i64 0]) ∧ Hid (Below w2.heap.size w2 w')) := (read18 _ len cap zs w2 HRW.out HL.out hc hm).mono (by
            rintro e w' ⟨_, h, hb⟩
            refine ⟨h ?_, hb⟩
            rw [HL.out, hq]
            intro h'
            rcases h' with h' | h'
            · omega
            · cases h')
          have KB := fun I F C0 C1 C2 C3 v0 v1 v2 v3 v4 v5 hu W => Lib.hid (bytes_back zs HZL.out HR.out.2 I F C0 C1 C2 C3 v0 v1 v2 v3 v4 v5 hu W)
          obtain ⟨I, v0⟩ : ∃ x, nv zs 0 = x := ⟨_, rfl⟩
          obtain ⟨F, v1⟩ : ∃ x, nv zs 1 = x := ⟨_, rfl⟩
          obtain ⟨D0, v2⟩ : ∃ x, nv zs 2 = x := ⟨_, rfl⟩
          obtain ⟨D1, v3⟩ : ∃ x, nv zs 3 = x := ⟨_, rfl⟩
          obtain ⟨D2, v4⟩ : ∃ x, nv zs 4 = x := ⟨_, rfl⟩
          obtain ⟨D3, v5⟩ : ∃ x, nv zs 5 = x := ⟨_, rfl⟩
          rw [v0, v1, v2, v3, v4, v5] at KR
          simp only [msgU] at KR
          rw [v1] at hq
          have KB' := KB I F D0 D1 D2 D3 v0 v1 v2 v3 v4 v5 hq
          clear KB v0 v1 v2 v3 v4 v5
          go_wp2_with fail
          refine KR.out.mono ?_
          rintro e w5 ⟨rfl, HB5⟩
          have HB6 : Hid (Below w.heap.size w w5) := HBW.out.trans (HB5.out.mono HBW.out.size)
          go_wp2_with fail
          refine (KB' _).out.mono ?_
          rintro e w6 ⟨g6, rfl, H6⟩
          have HB7 : Hid (Below w.heap.size w w6) := ((HB6.out.alloc HB6.out.size _).alloc (by have := HB6.out.size; simp; omega) _).trans (H6.out.2.mono (by have := HB6.out.size; simp; omega))
          have hcut : ∀ cc, Hid (Calls Try.prog 12 #[.slice (some ⟨g6, 0, none⟩) 12 12, .slice (some ⟨b, o9, none⟩) 12 cc] w6 fun e w' => e = .returned (.bool true) ∧ w' = w6) := fun cc => same_yes (some ⟨g6, 0, none⟩) (some ⟨b, o9, none⟩) 12 12 cc (zs.take 12) w6 (by
            have := H6.out.1.rd 12
            rwa [List.take_take, Nat.min_self] at this) ((HR.out.below HB7.out).cut 0 12 (by have := HZL.out; omega) (fun _ b o e => by rw [e]; rfl)) (by simp; have := HZL.out; omega)
          have hcap : 12 ≤ cap := by omega
          go_wp2_with fail
          refine (hcut _).out.mono ?_
          rintro e w7 ⟨rfl, rfl⟩
          go_wp2
          go_ret
          exact ⟨rfl, HB7.out⟩
        · have KR : Hid (Calls Try.prog 18 #[.slice (some ⟨b, o9, none⟩) len cap] w2 fun e w' => e = .returned (.tuple #[.agg #[.int .u16 0, .bool false, .int .i64 0, .bool false, .bool false, .bool false, .bool false, .bool false, .bool false, .int .i64 0, .slice none 0 0, .slice none 0 0, .slice none 0 0, .slice none 0 0], .agg #[.int .i64 0, .int .i64 0, .int .i64 0, .int .i64 0], .int .i64 8]) ∧ Hid (Below w2.heap.size w2 w')) := (read18 _ len cap zs w2 HRW.out HL.out hc hm).mono (by
            rintro e w' ⟨h, _, hb⟩
            exact ⟨h (.inr hq), hb⟩)
          have h64 := bit64 HZL.out HR.out.2 hq
          have c3' := hcl 3 (by have := HZL.out; omega)
          generalize zs.getD 3 0 = z3 at h64 c3'
          have HC3 : Hid (w.cell? ⟨b, o9 + 3, none⟩ = some (.int .u8 z3)) := c3'
          clear hcl c3'
          have h3l : (3 : Int) < (len : Int) := by omega
          go_wp2_with fail
          refine KR.out.mono ?_
          rintro e w5 ⟨rfl, HB5⟩
          have HB6 : Hid (Below w.heap.size w w5) := HBW.out.trans (HB5.out.mono HBW.out.size)
          have c5 : w5.cell? ⟨b, o9 + 3, none⟩ = some (.int .u8 z3) := (HB6.out.cell (p := ⟨b, o9 + 3, none⟩) hbl).trans HC3.out
          have hb5 : b < w5.heap.size := Nat.lt_of_lt_of_le hbl HB6.out.size
          go_wp2
          go_ret
          exact ⟨rfl, (HB6.out.alloc HB6.out.size _).alloc (by have := HB6.out.size; simp; omega) _⟩
  · go_wp2_with fail
    refine (bytes10_arg (id : Int) rs op aa tc rd ra ad cd rc a1 a2 a3 a4 n1 n2 n3 n4 k1 k2 k3 k4 c0 c1 c2 c3 _ hf).mono ?_
    rintro e w2 ⟨rfl, hb2⟩
    have HBW : Hid (Below w.heap.size w w2) := HM1.out.1.trans (hb2.mono HM1.out.1.size)
    clear hb2 HM1 hf
    have HRW : Hid (Rd w2 a zs) := HR.out.below HBW.out
    rcases Nat.lt_or_ge len 12 with h12 | h12
    · have KR : Hid (Calls Try.prog 18 #[.slice a len cap] w2 fun e w' => e = .returned (.tuple #[.agg #[.int .u16 0, .bool false, .int .i64 0, .bool false, .bool false, .bool false, .bool false, .bool false, .bool false, .int .i64 0, .slice none 0 0, .slice none 0 0, .slice none 0 0, .slice none 0 0], .agg #[.int .i64 0, .int .i64 0, .int .i64 0, .int .i64 0], .int .i64 8]) ∧ Hid (Below w2.heap.size w2 w')) := (read18 a len cap zs w2 HRW.out HL.out hc hm).mono (by
        rintro e w' ⟨h, _, hb⟩
        exact ⟨h (.inl (by rw [HL.out]; exact h12)), hb⟩)
      have h12' : (len : Int) < 12 := by omega
      go_wp2_with fail
      refine KR.out.mono ?_
      rintro e w5 ⟨rfl, HB5⟩
      go_wp2
      go_ret
      exact ⟨rfl, ((HBW.out.trans (HB5.out.mono HBW.out.size)).alloc (Nat.le_trans HBW.out.size HB5.out.size) _).alloc (by have := Nat.le_trans HBW.out.size HB5.out.size; simp; omega) _⟩
    · have hzl : 12 ≤ zs.length := by rw [HL.out]; exact h12
      have HZL : Hid (12 ≤ zs.length) := hzl
      clear hzl
      have h12' : ¬ (len : Int) < 12 := by omega
      obtain ⟨b, o9, rfl, hbl, hcl⟩ : ∃ b o, a = some ⟨b, o, none⟩ ∧ b < w.heap.size ∧ ∀ i, i < zs.length → w.cell? ⟨b, o + i, none⟩ = some (.int .u8 (zs.getD i 0)) := by
        rcases HR.out.1 with h | ⟨b, o, h1, h2, h3⟩
        · have := HZL.out; subst h; simp at this
        · exact ⟨b, o, h1, h2, h3⟩
      cases hq : unfl (nv zs 1) 64
      · have KR : Hid (Calls Try.prog 18 #[.slice (some ⟨b, o9, none⟩) len cap] w2 fun e w' => e = .returned (.tuple #[.agg (msgU (nv zs 0) (nv zs 1)), .agg #[.int .i64 (nv zs 2 : Int), .int .i64 (nv zs 3 : Int), .int .i64 (nv zs 4 : Int), .int .i64 (nv zs 5 : Int)], .int .i64 0]) ∧ Hid (Below w2.heap.size w2 w')) := (read18 _ len cap zs w2 HRW.out HL.out hc hm).mono (by
          rintro e w' ⟨_, h, hb⟩
          refine ⟨h ?_, hb⟩
          rw [HL.out, hq]
          intro h'
          rcases h' with h' | h'
          · omega
          · cases h')
        have KB := fun I F C0 C1 C2 C3 v0 v1 v2 v3 v4 v5 hu W => Lib.hid (bytes_back zs HZL.out HR.out.2 I F C0 C1 C2 C3 v0 v1 v2 v3 v4 v5 hu W)
        obtain ⟨I, v0⟩ : ∃ x, nv zs 0 = x := ⟨_, rfl⟩
        obtain ⟨F, v1⟩ : ∃ x, nv zs 1 = x := ⟨_, rfl⟩
        obtain ⟨D0, v2⟩ : ∃ x, nv zs 2 = x := ⟨_, rfl⟩
        obtain ⟨D1, v3⟩ : ∃ x, nv zs 3 = x := ⟨_, rfl⟩
        obtain ⟨D2, v4⟩ : ∃ x, nv zs 4 = x := ⟨_, rfl⟩
        obtain ⟨D3, v5⟩ : ∃ x, nv zs 5 = x := ⟨_, rfl⟩
        rw [v0, v1, v2, v3, v4, v5] at KR
        simp only [msgU] at KR
        rw [v1] at hq
        have KB' := KB I F D0 D1 D2 D3 v0 v1 v2 v3 v4 v5 hq
        clear KB v0 v1 v2 v3 v4 v5
        go_wp2_with fail
        refine KR.out.mono ?_
        rintro e w5 ⟨rfl, HB5⟩
        have HB6 : Hid (Below w.heap.size w w5) := HBW.out.trans (HB5.out.mono HBW.out.size)
        go_wp2_with fail
        refine (KB' _).out.mono ?_
        rintro e w6 ⟨g6, rfl, H6⟩
        have HB7 : Hid (Below w.heap.size w w6) := ((HB6.out.alloc HB6.out.size _).alloc (by have := HB6.out.size; simp; omega) _).trans (H6.out.2.mono (by have := HB6.out.size; simp; omega))
        have hcut : ∀ cc, Hid (Calls Try.prog 12 #[.slice (some ⟨g6, 0, none⟩) 12 12, .slice (some ⟨b, o9, none⟩) 12 cc] w6 fun e w' => e = .returned (.bool true) ∧ w' = w6) := fun cc => same_yes (some ⟨g6, 0, none⟩) (some ⟨b, o9, none⟩) 12 12 cc (zs.take 12) w6 (by
          have := H6.out.1.rd 12
          rwa [List.take_take, Nat.min_self] at this) ((HR.out.below HB7.out).cut 0 12 (by have := HZL.out; omega) (fun _ b o e => by rw [e]; rfl)) (by simp; have := HZL.out; omega)
        have hcap : 12 ≤ cap := by omega
        go_wp2_with fail
        refine (hcut _).out.mono ?_
        rintro e w7 ⟨rfl, rfl⟩
        go_wp2
        go_ret
        exact ⟨rfl, HB7.out⟩
      · have KR : Hid (Calls Try.prog 18 #[.slice (some ⟨b, o9, none⟩) len cap] w2 fun e w' => e = .returned (.tuple #[.agg #[.int .u16 0, .bool false, .int .i64 0, .bool false, .bool false, .bool false, .bool false, .bool false, .bool false, .int .i64 0, .slice none 0 0, .slice none 0 0, .slice none 0 0, .slice none 0 0], .agg #[.int .i64 0, .int .i64 0, .int .i64 0, .int .i64 0], .int .i64 8]) ∧ Hid (Below w2.heap.size w2 w')) := (read18 _ len cap zs w2 HRW.out HL.out hc hm).mono (by
          rintro e w' ⟨h, _, hb⟩
          exact ⟨h (.inr hq), hb⟩)
        have h64 := bit64 HZL.out HR.out.2 hq
        have c3' := hcl 3 (by have := HZL.out; omega)
        generalize zs.getD 3 0 = z3 at h64 c3'
        have HC3 : Hid (w.cell? ⟨b, o9 + 3, none⟩ = some (.int .u8 z3)) := c3'
        clear hcl c3'
        have h3l : (3 : Int) < (len : Int) := by omega
        go_wp2_with fail
        refine KR.out.mono ?_
        rintro e w5 ⟨rfl, HB5⟩
        have HB6 : Hid (Below w.heap.size w w5) := HBW.out.trans (HB5.out.mono HBW.out.size)
        have c5 : w5.cell? ⟨b, o9 + 3, none⟩ = some (.int .u8 z3) := (HB6.out.cell (p := ⟨b, o9 + 3, none⟩) hbl).trans HC3.out
        have hb5 : b < w5.heap.size := Nat.lt_of_lt_of_le hbl HB6.out.size
        go_wp2
        go_ret
        exact ⟨rfl, (HB6.out.alloc HB6.out.size _).alloc (by have := HB6.out.size; simp; omega) _⟩
end Go.Proofs.Ytmlccnpondemiaa
