/- Pieces joined and digits read, the room made ahead: what is answered lies in a block that is just as long. -/
import Derived.Test.YtglkjiebcmmglaaRhex
namespace Go.Proofs.Ytglkjiebcmmglaa
open Go.ChangeShapes Go.WideShapes Go.ChangeAt Go.RowKit
set_option linter.unusedVariables false
set_option linter.unusedSimpArgs false

/-- An append that fits. -/
theorem wpList_append_fit (w : World) {ops : Array Oper} {rest : List Oper} {o : Oper} {a : Act} {Q : Exit → Act → World → Prop} (hgd : o.guard = none) (s x : Operand)
    (ho : o.op = .call { callee := .builtin .append, args := #[s, x], argTypes := #[23, 23] }) (g n : Nat) (zs : List Int) (C : Nat) (hC : zs.length = C) (hs : a.eval s = .slice (some ⟨g, 0, none⟩) n C) (hblk : Blk w g zs)
    (ao : Option Addr) (m c : Nat) (news : List Int) (hx : a.eval x = .slice ao m c) (hr : Rd w ao news) (hl : news.length = m) (hc : ao = none → c = 0) (hroom : n + m ≤ C)
    (h : ∀ w' zs', Hid (Blk w' g zs') → Hid (zs'.length = C ∧ zs'.take (n + m) = zs.take n ++ news) → w.grownBy w' (some g) → wpList Try.prog ops Q rest (a.put o.dst (.slice (some ⟨g, 0, none⟩) (n + m) C)) w') : wpList Try.prog ops Q (o :: rest) a w := by
  refine wpList_plain hgd fun K hK => ?_
  subst hC
  obtain ⟨i, hi, hz0, hz1, hz2⟩ := info_parts Try.info5
  have key : ∃ w' zs', (Builtin.append_ #[23, 23] o.type #[.slice (some ⟨g, 0, none⟩) n zs.length, .slice ao m c]).run Try.prog w = .ok (.slice (some ⟨g, 0, none⟩) (n + m) zs.length) w' ∧ Blk w' g zs' ∧ (zs'.length = zs.length ∧ zs'.take (n + m) = zs.take n ++ news) ∧ w.grownBy w' (some g) := by
    cases ao with
    | none =>
      have hnews : news = [] := by
        rcases hr.1 with h1 | ⟨b, o, h, _⟩
        · exact h1
        · cases h
      subst hnews; subst hl
      rw [hc rfl]
      refine ⟨w, zs, ?_, hblk, ⟨rfl, by simp⟩, World.grownBy.refl _ _⟩
      have hn : n ≤ zs.length := by simpa using hroom
      simp [Builtin.append_, run_underlying Try.underlying23, sizeOf, typeInfo, hi, Builtin.lenOf, Builtin.firstCells, hn, storeCells]
    | some ad =>
      have hcs := rd_cells hr
      have hlm : (news.map (Value.int .u8)).length = m * i.size := by rw [hz1]; simp [hl]
      have hr' := run_append_room (P := Try.prog) w 23 o.type 5 i Try.underlying23 hi g n zs.length _ hblk.1 ad m c (news.map (Value.int .u8)) hlm hcs (ints_oneCell _ _) hroom (by rw [hz1]; simp [hl]; omega)
      have e : (((zs.map (Value.int .u8)).toArray.toList.take (n * i.size)) ++ news.map (Value.int .u8) ++ (zs.map (Value.int .u8)).toArray.toList.drop (n * i.size + (news.map (Value.int .u8)).length)).toArray = ((zs.take n ++ news ++ zs.drop (n + m)).map (Value.int .u8)).toArray := by
        rw [hz1]; simp [hl]
      rw [e] at hr'
      have hlen : (zs.take n ++ news ++ zs.drop (n + m)).length = zs.length := by simp [hl]; omega
      refine ⟨_, zs.take n ++ news ++ zs.drop (n + m), hr', ⟨setRow_heap w g _ _ 5 _ hblk.1, ?_⟩, ⟨hlen, ?_⟩,
        ⟨rfl, rfl, rfl, by simp, fun k _ hk => setRow_other w g k _ (fun e => hk (by simp [e]))⟩⟩
      · intro z hz
        simp only [List.mem_append] at hz
        rcases hz with (hz | hz) | hz
        · exact hblk.2 z (List.mem_of_mem_take hz)
        · exact hr.2 z hz
        · exact hblk.2 z (List.mem_of_mem_drop hz)
      · rw [List.take_append_of_le_length (by simp [hl]; omega)]
        exact List.take_of_length_le (by simp [hl]; omega)
  obtain ⟨w', zs', hrun, h2, h3, h4⟩ := key
  unfold Oper.wp execOp
  simp only [ho, resolve, invoke, builtin, Sem.run_bind, Sem.run_pure, Result.andThen_ok, List.map_toArray, List.map_cons, List.map_nil, hs, hx, hrun]
  exact hK _ _ (h w' zs' h2 h3 h4)

set_option maxHeartbeats 1000000 in
theorem join_ex (L N C : Nat) (ps : List Piece) (w : World) (hN : ps.length = N) (hp : Pcs w L ps) (hNC : N ≤ C) (hNb : N ≤ 1000) (hs : (jn ps ps.length).length ≤ 140737488355328) :
    Calls Try.prog 20 #[.slice (some ⟨L, 0, none⟩) N C] w fun e w' => e = .returned (.slice (some ⟨w.heap.size, 0, none⟩) (jn ps ps.length).length (jn ps ps.length).length) ∧ Hid (Blk w' w.heap.size (jn ps ps.length) ∧ Below w.heap.size w w') := by
  have HN : Hid (ps.length = N) := hN
  have HP : Hid (Pcs w L ps) := hp
  clear hN hp
  obtain ⟨T, hT⟩ : ∃ T, (jn ps ps.length).length = T := ⟨_, rfl⟩
  have HT : Hid ((jn ps ps.length).length = T) := hT
  have HLE : Hid (∀ k, k ≤ N → (jn ps k).length ≤ T) := fun k hk => by rw [← hT]; exact jn_le ps k (by rw [HN.out]; exact hk)
  rw [hT] at hs ⊢
  clear hT
  go_enter Try.func20, Try.ntmps20
  go_wp2_with fail
  go_loop [3, 11] (fun s x => ∃ k : Nat, k ≤ N ∧ x = .int .i64 k ∧ s = .int .i64 ((jn ps k).length : Nat)) (fun _ x => N - (intOf x).toNat)
  case atStart => exact ⟨0, Nat.zero_le _, rfl, rfl⟩
  case round =>
    obtain ⟨k, hk, rfl, rfl⟩ := hrel
    by_cases hlt : k < N
    · have hlt' : (k : Int) < (N : Int) := by omega
      have hke : k < ps.length := by rw [HN.out]; exact hlt
      have hcl := (HP.out.2 k hke).1
      have hj := jn_succ ps k hke
      have hl1 : (jn ps (k + 1)).length = (jn ps k).length + ps[k].2.2.length := by rw [hj, List.length_append]
      have hle := HLE.out (k + 1) (by omega)
      have HJ : Hid ((jn ps (k + 1)).length = (jn ps k).length + ps[k].2.2.length) := hl1
      have hsum : (jn ps k).length + ps[k].2.2.length ≤ T := by omega
      clear hj hl1 hle
      generalize ps[k].2.2.length = pl at *
      generalize (jn ps k).length = jl at *
      go_wp2
      go_round
      case rel => exact ⟨k + 1, by omega, by go_num, by rw [HJ.out]; go_num⟩
      case measure => simp [intOf]; omega
    · have ek : (jn ps k).length = T := by rw [← HT.out, HN.out, show k = N by omega]
      have hge : (N : Int) ≤ (k : Int) := by omega
      rw [ek]
      clear ek
      go_wp2_with (at_make; refine wpList_make_blk _ rfl _ _ rfl 0 T _ _ rfl rfl (by rfl) (by rfl) (by omega) (by omega) ?_)
      have HO : Hid (Blk (w.alloc (.cells (Array.replicate T (Value.int .u8 0)) 5)) w.heap.size (List.replicate T 0) ∧ Below w.heap.size w (w.alloc (.cells (Array.replicate T (Value.int .u8 0)) 5))) := by
        refine ⟨⟨by rw [heap_alloc_new]; simp, fun z hz => ?_⟩, (Below.refl _ _).alloc (Nat.le_refl _) _⟩
        rw [(List.mem_replicate.1 hz).2]; omega
      go_loopw [6, 24] (fun v x wr => ∃ m jl : Nat, m ≤ N ∧ jl ≤ T ∧ x = .int .i64 m ∧ v = .slice (some ⟨w.heap.size, 0, none⟩) jl T ∧ Hid ((jn ps m).length = jl) ∧ Hid (∃ ys, Blk wr w.heap.size ys ∧ ys.length = T ∧ ys.take jl = jn ps m) ∧ Hid (Below w.heap.size w wr)) (fun _ x _ => N - (intOf x).toNat)
      case atStart => exact ⟨0, 0, Nat.zero_le _, Nat.zero_le _, rfl, rfl, rfl, ⟨_, HO.out.1, by simp, rfl⟩, HO.out.2⟩
      case round =>
        obtain ⟨m, jl, hm, hjl, rfl, rfl, HJL, HW, HB⟩ := hrel
        clear HO
        by_cases hml : m < N
        · have hml' : (m : Int) < (N : Int) := by omega
          have hme : m < ps.length := by rw [HN.out]; exact hml
          have HPw : Hid (Pcs wr L ps) := HP.out.below HB.out
          have hcl := (HPw.out.2 m hme).1
          obtain ⟨ys, hO, hYL, hT⟩ := HW.out
          have hsl : (jn ps m).length + ps[m].2.2.length ≤ T := by
            have h1 := jn_succ ps m hme
            have h2 := HLE.out (m + 1) (by omega)
            rw [h1, List.length_append] at h2
            exact h2
          have HQ : Hid (Blk wr w.heap.size ys ∧ ys.length = T ∧ ys.take jl = jn ps m ∧ jn ps (m + 1) = jn ps m ++ ps[m].2.2) := ⟨hO, hYL, hT, jn_succ ps m hme⟩
          have HR : Hid (Rd wr ps[m].1 ps[m].2.2 ∧ (ps[m].1 = none → ps[m].2.1 = 0)) := (HPw.out.2 m hme).2
          clear hO hT hYL
          have hsum : jl + ps[m].2.2.length ≤ T := by rw [← HJL.out]; exact hsl
          clear hsl
          go_wp2_with (at_builtin; refine wpList_append_fit _ rfl _ _ rfl w.heap.size jl ys T HQ.out.2.1 rfl HQ.out.1 ps[m].1 ps[m].2.2.length ps[m].2.1 ps[m].2.2 rfl HR.out.1 rfl HR.out.2 hsum ?_; intro w' ys' hO' hT' hG')
          refine ⟨⟨m + 1, jl + ps[m].2.2.length, by omega, hsum, by go_num, rfl, ?_, ⟨ys', hO'.out, hT'.out.1, ?_⟩, ?_⟩, by simp [intOf]; omega⟩
          · show _ = _
            rw [HQ.out.2.2.2, List.length_append, HJL.out]
          · rw [hT'.out.2, HQ.out.2.2.1, HQ.out.2.2.2]
          · exact HB.out.grown hG' HB.out.size (fun q hq => by have := Option.some.inj hq; omega)
        · obtain ⟨ys, hO, hYL, hT⟩ := HW.out
          have em : jn ps m = jn ps ps.length := by rw [HN.out, show m = N by omega]
          have ej : jl = T := by rw [← HJL.out, em, HT.out]
          have ey : ys = jn ps ps.length := by rw [← em, ← hT, ej, ← hYL]; simp
          rw [ey] at hO
          have hge2 : (N : Int) ≤ (m : Int) := by omega
          have HF : Hid (Blk wr w.heap.size (jn ps ps.length)) := hO
          clear hO hT em ey hYL HJL
          subst ej
          go_wp2
          go_ret
          exact ⟨rfl, HF.out, HB.out⟩

set_option maxHeartbeats 1000000 in
theorem unhex_exe (s : ByteArray) (n : Nat) (w : World) (hn : s.size = 2 * n) (h : s.size ≤ 131070) :
    Calls Try.prog 22 #[.string s] w fun e w' => ((∃ k, k < n ∧ ¬ okp (nums s) k) ∧ e = .returned (.tuple #[.slice none 0 0, .int .i64 110]) ∧ Below w.heap.size w w') ∨
      ((∀ k, k < n → okp (nums s) k) ∧ e = .returned (.tuple #[.slice (some ⟨w.heap.size, 0, none⟩) n n, .int .i64 0]) ∧ Blk w' w.heap.size (prs (nums s) n) ∧ Below w.heap.size w w') := by
  have HN : Hid (s.size = 2 * n) := hn
  have h1 : ¬ (131070 : Int) < (s.size : Int) := by omega
  have h2 : ((s.size : Int) % 2 != 0) = false := by rw [bne_eq_false_iff_eq]; omega
  have h3 : (s.size : Int) / 2 = (n : Int) := by omega
  have hn2 : n ≤ 65535 := by omega
  clear hn
  go_enter Try.func22, Try.ntmps22
  go_wp2_with (at_make; refine wpList_make_blk _ rfl _ _ rfl 0 n _ _ rfl rfl (by rfl) (by omega) (by omega) (by omega) ?_)
  have HO : Hid (Blk (w.alloc (.cells (Array.replicate n (Value.int .u8 0)) 5)) w.heap.size (List.replicate n 0) ∧ Below w.heap.size w (w.alloc (.cells (Array.replicate n (Value.int .u8 0)) 5))) := by
    refine ⟨⟨by rw [heap_alloc_new]; simp, fun z hz => ?_⟩, (Below.refl _ _).alloc (Nat.le_refl _) _⟩
    rw [(List.mem_replicate.1 hz).2]; omega
  go_loopw [4, 5] (fun v x wr => ∃ k i : Nat, k ≤ n ∧ Hid (i = 2 * k) ∧ x = .int .i64 i ∧ v = .slice (some ⟨w.heap.size, 0, none⟩) k n ∧ Hid (∃ ys, Blk wr w.heap.size ys ∧ ys.length = n ∧ ys.take k = prs (nums s) k) ∧ Hid (Below w.heap.size w wr) ∧ Hid (∀ j, j < k → okp (nums s) j)) (fun _ x _ => s.size - (intOf x).toNat)
  case atStart => exact ⟨0, 0, Nat.zero_le _, rfl, rfl, rfl, ⟨_, HO.out.1, by simp, rfl⟩, HO.out.2, fun j hj => absurd hj (by omega)⟩
  case round =>
    obtain ⟨k, i, hk, HI, rfl, rfl, HW, HB, HP⟩ := hrel
    clear HO
    by_cases hlt : k < n
    · have hi1 : i + 1 < s.size := by have := HI.out; have := HN.out; omega
      have hi0 : i < s.size := by omega
      have hi1' : (i : Int) + 1 < (s.size : Int) := by omega
      have hi0' : (i : Int) < (s.size : Int) := by omega
      have hw1 : IntKind.i64.wrap ((i : Int) + 1) = (i : Int) + 1 := by rw [IntKind.wrap_i64]; omega
      go_wp2_with fail
      go_region_held3 (fun _ => True) (trivial) (first
        | (go_at_call 42; refine (worth_any _ _).mono ?_; rintro e w2 ⟨rfl, rfl⟩))
      all_goals
        have e0 : (nums s).getD (2 * k) 0 = (s[i].toNat : Int) := by rw [← HI.out]; exact nums_at s i hi0
        have e1 : (nums s).getD (2 * k + 1) 0 = (s[i + 1].toNat : Int) := by rw [← HI.out]; exact nums_at s (i + 1) hi1
        have HOK : Hid (okp (nums s) k ↔ 0 ≤ wv (s[i].toNat : Int) ∧ 0 ≤ wv (s[i + 1].toNat : Int)) := by unfold okp; rw [e0, e1]; exact Iff.rfl
        have HPV : Hid (pv (nums s) k = wv (s[i].toNat : Int) * 16 + wv (s[i + 1].toNat : Int)) := by unfold pv; rw [e0, e1]; rfl
        have b0 := wv_bd (s[i].toNat : Int) (by have := s[i].toNat_lt; omega)
        have b1 := wv_bd (s[i + 1].toNat : Int) (by have := s[i + 1].toNat_lt; omega)
        clear e0 e1
        generalize wv (s[i].toNat : Int) = c0 at *
        generalize wv (s[i + 1].toNat : Int) = c1 at *
        by_cases ha : c0 < 0
        · go_wp2
          go_ret2
          exact .inl ⟨⟨k, hlt, fun h => by have := (HOK.out.1 h).1; omega⟩, rfl, HB.out.drew⟩
        by_cases hb : c1 < 0
        · go_wp2
          go_ret2
          exact .inl ⟨⟨k, hlt, fun h => by have := (HOK.out.1 h).2; omega⟩, rfl, HB.out.drew⟩
        have hz := or16 c0 c1 (by omega) (by omega)
        have hz2 : (c0 * 16 + c1) % 256 = c0 * 16 + c1 := by omega
        obtain ⟨ys, hO, hYL, hT⟩ := HW.out
        have hnb : Below wr.heap.size wr (wr.alloc (.cells #[.int .u8 (c0 * 16 + c1)] 5)).drew := ((Below.refl _ _).alloc (Nat.le_refl _) _).drew
        have HO2 : Hid (Blk (wr.alloc (.cells #[.int .u8 (c0 * 16 + c1)] 5)).drew w.heap.size ys ∧ ys.length = n ∧ ys.take k = prs (nums s) k) := ⟨hO.below hnb, hYL, hT⟩
        have HR2 : Hid (Rd (wr.alloc (.cells #[.int .u8 (c0 * 16 + c1)] 5)).drew (some ⟨wr.heap.size, 0, none⟩) [c0 * 16 + c1]) := (new_rd wr (c0 * 16 + c1) (by omega)).drew
        have HNB : Hid (Below wr.heap.size wr (wr.alloc (.cells #[.int .u8 (c0 * 16 + c1)] 5)).drew) := hnb
        clear hO hT hnb hYL
        go_wp2_with (at_builtin; refine wpList_append_fit _ rfl _ _ rfl w.heap.size k ys n HO2.out.2.1 rfl HO2.out.1 (some ⟨wr.heap.size, 0, none⟩) 1 1 [c0 * 16 + c1] rfl HR2.out rfl (by simp) (by omega) ?_; intro w' ys' hO' hT' hG')
        refine ⟨⟨k + 1, i + 2, by omega, (show i + 2 = 2 * (k + 1) by have := HI.out; omega), by go_num, rfl, ⟨ys', hO'.out, hT'.out.1, ?_⟩, ?_, ?_⟩, by simp [intOf]; omega⟩
        · rw [hT'.out.2, HO2.out.2.2, prs_succ, HPV.out]
        · exact (HB.out.trans (HNB.out.mono HB.out.size)).grown hG' (Nat.le_trans HB.out.size HNB.out.size) (fun q hq => by have := Option.some.inj hq; omega)
        · intro j hj
          by_cases e : j = k
          · rw [e]; exact HOK.out.2 ⟨by omega, by omega⟩
          · exact HP.out j (by omega)
    · obtain rfl : k = n := by omega
      obtain ⟨ys, hO, hYL, hT⟩ := HW.out
      have ey : ys = prs (nums s) k := by rw [← hT, ← hYL]; simp
      rw [ey] at hO
      have hge : (s.size : Int) ≤ (i : Int) := by have := HI.out; have := HN.out; omega
      have HF : Hid (Blk wr w.heap.size (prs (nums s) k)) := hO
      clear hO hT ey hYL
      go_wp2
      go_ret2
      exact .inr ⟨HP.out, rfl, HF.out, HB.out⟩
end Go.Proofs.Ytglkjiebcmmglaa
