/- The document's digits of bytes, and its pieces joined. -/
import Derived.Test.YtglkjiebcmmglaaRunhex
namespace Go.Proofs.Ytglkjiebcmmglaa
open Go.ChangeShapes Go.WideShapes Go.ChangeAt Go.RowKit
set_option linter.unusedVariables false
set_option linter.unusedSimpArgs false

def hx (zs : List Int) : List Int := zs.flatMap fun z => [dg (z / 16), dg (z % 16)]
theorem hx_snoc (zs : List Int) (z : Int) : hx (zs ++ [z]) = hx zs ++ [dg (z / 16), dg (z % 16)] := by simp [hx]
theorem hx_len (zs : List Int) : (hx zs).length = 2 * zs.length := by
  induction zs with
  | nil => rfl
  | cons z zs ih => simp only [hx, List.flatMap_cons, List.length_append, List.length_cons, List.length_nil] at ih ⊢; omega
theorem txt_hx (zs : List Int) : txt (hx zs) = hexl zs := by
  simp [txt, hx, hexl, ub, List.map_flatMap]
theorem new_rd2 (w : World) (y z : Int) (hy : 0 ≤ y ∧ y ≤ 255) (hz : 0 ≤ z ∧ z ≤ 255) : Rd (w.alloc (.cells #[.int .u8 y, .int .u8 z] 5)) (some ⟨w.heap.size, 0, none⟩) [y, z] := by
  refine ⟨.inr ⟨w.heap.size, 0, rfl, by simp, fun i hi => ?_⟩, by simpa using ⟨hy, hz⟩⟩
  have : i = 0 ∨ i = 1 := by simp at hi; omega
  rcases this with rfl | rfl <;> simp [go_sem]

set_option maxHeartbeats 400000 in
theorem refhex_any (a : Option Addr) (len cap : Nat) (zs : List Int) (w : World) (hr : Rd w a zs) (hl : zs.length = len) (hm : len ≤ 1000000000) :
    Calls Try.prog 25 #[.slice a len cap] w fun e w' => e = .returned (.string ⟨(hexl zs).toArray⟩) ∧ Hid (Below w.heap.size w w') := by
  have HR : Hid (Rd w a zs) := hr
  have HL : Hid (zs.length = len) := hl
  clear hr hl
  go_enter Try.func25, Try.ntmps25
  go_wp2_with fail
  go_loopw [3, 4] (fun v x wr => ∃ k : Nat, k ≤ len ∧ x = .int .i64 k ∧ Hid (∃ ys, Own w.heap.size wr v (2 * k) ys ∧ ys.take (2 * k) = hx (zs.take k)) ∧ Hid (Below w.heap.size w wr)) (fun _ x _ => len - (intOf x).toNat)
  case atStart => exact ⟨0, Nat.zero_le _, rfl, ⟨[], .inl ⟨rfl, rfl, rfl⟩, rfl⟩, Below.refl _ _⟩
  case round =>
    obtain ⟨k, hk, rfl, HW, HB⟩ := hrel
    by_cases hlt : k < len
    · have hlt' : (k : Int) < (len : Int) := by omega
      rcases HR.out.1 with e1 | ⟨b, o, rfl, e1, e2⟩
      · have := HL.out; subst e1; simp at this; omega
      have hc0 := e2 k (by rw [HL.out]; exact hlt)
      have hc : wr.cell? ⟨b, o + k, none⟩ = some (.int .u8 (zs.getD k 0)) := (HB.out.cell (p := ⟨b, o + k, none⟩) e1).trans hc0
      have hbs : w.heap.size ≤ wr.heap.size := HB.out.size
      have hb := HR.out.bd k
      clear e2 hc0
      have hzk : zs.take (k + 1) = zs.take k ++ [zs.getD k 0] := take_snoc zs k (by rw [HL.out]; exact hlt)
      rw [List.getD_eq_getElem?_getD] at hb hc hzk
      have HZ : Hid (zs.take (k + 1) = zs.take k ++ [zs[k]?.getD 0]) := hzk
      clear hzk
      generalize zs[k]?.getD 0 = c at *
      obtain ⟨ys, hO, hT⟩ := HW.out
      have HO : Hid (Own w.heap.size wr u3 (2 * k) ys ∧ ys.take (2 * k) = hx (zs.take k)) := ⟨hO, hT⟩
      clear hO hT
      have d1 := dg_bd (c / 16) (by omega)
      have d2 := dg_bd (c % 16) (by omega)
      have HD : Hid (∀ (W : World) (d : Int), 0 ≤ d ∧ d < 16 → Calls Try.prog 47 #[.int .i64 d] W fun e w' => e = .returned (.int .u8 (dg d)) ∧ w' = W) := fun W d hd => digit_any d W hd
      have g1 : IntKind.i64.wrap c = c := by rw [IntKind.wrap_i64]; omega
      have g2 : IntKind.i64.wrap (c.tdiv 16) = c / 16 := by rw [Int.tdiv_eq_ediv_of_nonneg hb.1, IntKind.wrap_i64]; omega
      have g3 : c.tmod 16 = c % 16 := Int.tmod_eq_emod_of_nonneg hb.1
      go_wp2_with fail
      go_region_held3 (fun W => W.cell? ⟨b, o + k, none⟩ = some (.int .u8 c)) (go_keep) (first
        | (go_at_call 47; refine (HD.out _ _ ?_).mono ?_; omega; rintro e w2 ⟨rfl, rfl⟩)
        | (refine step_append_blk rfl _ _ rfl w.heap.size _ (2 * k) ys rfl ?_ (some ⟨wr.heap.size, 0, none⟩) 2 2 [dg (c / 16), dg (c % 16)] rfl ?_ (2 * k + 2) rfl rfl ?_ ?_ ?_ ?_; exact HO.out.1.below ((Below.refl _ _).drew.alloc (Nat.le_refl _) _); exact new_rd2 wr.drew _ _ (by omega) (by omega); simp; omega; (simp; omega); intro v' w' ys' hO' hT' hG'; have k0 : w'.cell? ⟨b, o + k, none⟩ = some (.int .u8 c) := (World.cell?_of_block (w := wr) (a := ⟨b, o + k, none⟩) ((hG'.out.block b (by simp; omega) (fun e => by have := HO.out.1.lt b e.symm; omega)).trans (Below.heap_alloc wr.drew _ b (by show b < wr.heap.size; omega)))).trans hc))
      clear g1 g2 g3 k0 hc
      go_wp2
      refine ⟨⟨k + 1, by omega, by go_num, ⟨ys', hO'.out, ?_⟩, ?_⟩, by simp [intOf]; omega⟩
      · rw [HZ.out, hx_snoc, ← HO.out.2]; exact hT'.out
      · have hal : Below w.heap.size w (wr.drew.alloc (.cells #[.int .u8 (dg (c / 16)), .int .u8 (dg (c % 16))] 5)) := HB.out.drew.alloc hbs _
        exact hal.grown hG'.out hal.size HO.out.1.lt
    · obtain ⟨ys, hO, hT⟩ := HW.out
      have ek : zs.take k = zs := List.take_of_length_le (by rw [HL.out]; omega)
      have e2 : k = len := by omega
      rw [ek] at hT
      obtain ⟨ao, rfl, hoa⟩ := hO.addr
      have hrd := hoa.rdTake (2 * k)
      rw [hT] at hrd
      have hcv := conv_rd ao (2 * k) ys.length (hx zs) wr hrd (by rw [hx_len, HL.out, e2])
      rw [txt_hx] at hcv
      have HH : Hid (hexl zs = hexl zs) := rfl
      have hge : (len : Int) ≤ (k : Int) := by omega
      clear hO hT hoa hrd ek e2
      generalize ys.length = yl at *
      generalize 2 * k = kk at *
      go_wp2
      go_ret
      exact ⟨rfl, HB.out⟩

/-- Pieces that can be read, from an address on. -/
def PcsA (w : World) (ad : Option Addr) (ps : List Piece) : Prop :=
  ps = [] ∨ ∃ b o, ad = some ⟨b, o, none⟩ ∧ b < w.heap.size ∧ ∀ k (h : k < ps.length), w.cell? ⟨b, o + k, none⟩ = some (.slice ps[k].1 ps[k].2.2.length ps[k].2.1) ∧ Rd w ps[k].1 ps[k].2.2 ∧ (ps[k].1 = none → ps[k].2.1 = 0)
theorem PcsA.below {w w' : World} {ad : Option Addr} {ps : List Piece} (h : PcsA w ad ps) (hb : Below w.heap.size w w') : PcsA w' ad ps := by
  rcases h with h | ⟨b, o, rfl, h1, h2⟩
  · exact .inl h
  · exact .inr ⟨b, o, rfl, Nat.lt_of_lt_of_le h1 hb.size, fun k hk => ⟨(hb.cell (p := ⟨b, o + k, none⟩) h1).trans (h2 k hk).1, (h2 k hk).2.1.below hb, (h2 k hk).2.2⟩⟩

set_option maxHeartbeats 1000000 in
theorem refjoin_any (ad : Option Addr) (N C : Nat) (ps : List Piece) (w : World) (hN : ps.length = N) (hp : PcsA w ad ps) (hNb : N ≤ 1000) (hs : (jn ps ps.length).length ≤ 140737488355328) :
    Calls Try.prog 21 #[.slice ad N C] w fun e w' => ∃ ao ys, e = .returned (.slice ao (jn ps ps.length).length ys.length) ∧ Hid (OwnA w.heap.size w' ao (jn ps ps.length).length ys ∧ ys.take (jn ps ps.length).length = jn ps ps.length ∧ Below w.heap.size w w') := by
  have HN : Hid (ps.length = N) := hN
  have HP : Hid (PcsA w ad ps) := hp
  clear hN hp
  obtain ⟨T, hT⟩ : ∃ T, (jn ps ps.length).length = T := ⟨_, rfl⟩
  have HT : Hid ((jn ps ps.length).length = T) := hT
  have HLE : Hid (∀ k, k ≤ N → (jn ps k).length ≤ T) := fun k hk => by rw [← hT]; exact jn_le ps k (by rw [HN.out]; exact hk)
  rw [hT] at hs ⊢
  clear hT
  go_enter Try.func21, Try.ntmps21
  go_wp2_with fail
  go_loopw [3, 4] (fun v x wr => ∃ m : Nat, m ≤ N ∧ x = .int .i64 m ∧ Hid (∃ ys, Own w.heap.size wr v (jn ps m).length ys ∧ ys.take (jn ps m).length = jn ps m) ∧ Hid (Below w.heap.size w wr)) (fun _ x _ => N - (intOf x).toNat)
  case atStart => exact ⟨0, Nat.zero_le _, rfl, ⟨[], .inl ⟨rfl, rfl, rfl⟩, rfl⟩, Below.refl _ _⟩
  case round =>
    obtain ⟨m, hm, rfl, HW, HB⟩ := hrel
    by_cases hml : m < N
    · have hml' : (m : Int) < (N : Int) := by omega
      have hme : m < ps.length := by rw [HN.out]; exact hml
      have HPw : Hid (PcsA wr ad ps) := HP.out.below HB.out
      rcases HPw.out with h0 | ⟨b, o, rfl, hb, hcs⟩
      · subst h0; simp at hme
      have hcl := (hcs m hme).1
      obtain ⟨ys, hO, hT⟩ := HW.out
      have HQ : Hid (Own w.heap.size wr u3 (jn ps m).length ys ∧ ys.take (jn ps m).length = jn ps m ∧ jn ps (m + 1) = jn ps m ++ ps[m].2.2 ∧ (jn ps (m + 1)).length ≤ T) := ⟨hO, hT, jn_succ ps m hme, HLE.out (m + 1) (by omega)⟩
      have HR : Hid (Rd wr ps[m].1 ps[m].2.2 ∧ (ps[m].1 = none → ps[m].2.1 = 0)) := (hcs m hme).2
      clear hO hT hcs
      have hsum : (jn ps m).length + ps[m].2.2.length ≤ T := by have h1 := HQ.out.2.2.1; have h2 := HQ.out.2.2.2; rw [h1, List.length_append] at h2; exact h2
      go_wp2_with (at_builtin; refine wpList_append_blk _ rfl _ _ rfl w.heap.size _ (jn ps m).length ys rfl HQ.out.1 ps[m].1 ps[m].2.2.length ps[m].2.1 ps[m].2.2 rfl HR.out.1 rfl HR.out.2 (by omega) HB.out.size ?_; intro v' w' ys' hO' hT' hG')
      have hrow := HQ.out.1.lt
      refine ⟨⟨m + 1, by omega, by go_num, ⟨ys', ?_, ?_⟩, ?_⟩, by simp [intOf]; omega⟩
      · rw [HQ.out.2.2.1, List.length_append]; exact hO'.out
      · rw [HQ.out.2.2.1, List.length_append, hT'.out, HQ.out.2.1]
      · exact HB.out.grown hG' HB.out.size hrow
    · obtain ⟨ys, hO, hT⟩ := HW.out
      have em : jn ps m = jn ps ps.length := by rw [HN.out, show m = N by omega]
      rw [em, HT.out] at hO hT
      obtain ⟨ao, rfl, hoa⟩ := hO.addr
      have hge2 : (N : Int) ≤ (m : Int) := by omega
      have HF : Hid (OwnA w.heap.size wr ao T ys ∧ ys.take T = jn ps ps.length) := ⟨hoa, hT⟩
      clear hO hT hoa em
      generalize hy : ys.length = yl
      have HY : Hid (ys.length = yl) := hy
      clear hy
      go_wp2
      go_ret
      exact ⟨ao, ys, by rw [HY.out]; rfl, HF.out.1, HF.out.2, HB.out⟩

/-- What digits are, by length and digits. -/
def uhL (s : ByteArray) : List Int := if s.size ≤ 131070 ∧ s.size % 2 = 0 ∧ (∀ k, k < s.size / 2 → 0 ≤ wv ((nums s).getD (2 * k) 0) ∧ 0 ≤ wv ((nums s).getD (2 * k + 1) 0)) then prs (nums s) (s.size / 2) else []
def uhE (s : ByteArray) : Int := if 131070 < s.size then 3 else if s.size % 2 = 0 ∧ (∀ k, k < s.size / 2 → 0 ≤ wv ((nums s).getD (2 * k) 0) ∧ 0 ≤ wv ((nums s).getD (2 * k + 1) 0)) then 0 else 110
def UhPost (s : ByteArray) (w : World) (e : Ending) (w' : World) : Prop :=
  ∃ ao ys, e = .returned (.tuple #[.slice ao (uhL s).length ys.length, .int .i64 (uhE s)]) ∧ Hid (OwnA w.heap.size w' ao (uhL s).length ys ∧ ys.take (uhL s).length = uhL s ∧ Below w.heap.size w w')
theorem uh_long {s : ByteArray} {w : World} {e : Ending} {w' : World} (h : 131070 < s.size) (he : e = .returned (.tuple #[.slice none 0 0, .int .i64 3])) (hw : w' = w) : UhPost s w e w' := by
  have e1 : uhL s = [] := by unfold uhL; rw [if_neg (by omega)]
  have e2 : uhE s = 3 := by unfold uhE; rw [if_pos h]
  refine ⟨none, [], by rw [e1, e2, he]; rfl, .inl ⟨rfl, by rw [e1]; rfl, rfl⟩, by rw [e1]; rfl, by rw [hw]; exact Below.refl _ _⟩
theorem uh_odd {s : ByteArray} {w : World} {e : Ending} {w' : World} (h : s.size ≤ 131070) (ho : ¬ s.size % 2 = 0 ∨ ∃ k, k < s.size / 2 ∧ ¬ okp (nums s) k) (he : e = .returned (.tuple #[.slice none 0 0, .int .i64 110])) (hw : Below w.heap.size w w') : UhPost s w e w' := by
  have hno : ¬ (s.size % 2 = 0 ∧ (∀ k, k < s.size / 2 → 0 ≤ wv ((nums s).getD (2 * k) 0) ∧ 0 ≤ wv ((nums s).getD (2 * k + 1) 0))) := by
    rintro ⟨h1, h2⟩
    rcases ho with ho | ⟨k, hk, hn⟩
    · exact ho h1
    · exact hn (h2 k hk)
  have e1 : uhL s = [] := by unfold uhL; rw [if_neg (fun h => hno h.2)]
  have e2 : uhE s = 110 := by unfold uhE; rw [if_neg (by omega), if_neg hno]
  refine ⟨none, [], by rw [e1, e2, he]; rfl, .inl ⟨rfl, by rw [e1]; rfl, rfl⟩, by rw [e1]; rfl, hw⟩
theorem uh_even {s : ByteArray} {w : World} {e : Ending} {w' : World} (h : s.size ≤ 131070) (ho : s.size % 2 = 0)
    (hp : ((∃ k, k < s.size / 2 ∧ ¬ okp (nums s) k) ∧ e = .returned (.tuple #[.slice none 0 0, .int .i64 110]) ∧ Below w.heap.size w w') ∨
      ((∀ k, k < s.size / 2 → okp (nums s) k) ∧ ∃ ao ys, e = .returned (.tuple #[.slice ao (s.size / 2) ys.length, .int .i64 0]) ∧ OwnA w.heap.size w' ao (s.size / 2) ys ∧ ys.take (s.size / 2) = prs (nums s) (s.size / 2) ∧ Below w.heap.size w w')) : UhPost s w e w' := by
  rcases hp with ⟨hk, he, hb⟩ | ⟨hall, ao, ys, he, h1, h2, h3⟩
  · exact uh_odd h (.inr hk) he hb
  · have e1 : uhL s = prs (nums s) (s.size / 2) := by unfold uhL; rw [if_pos ⟨h, ho, hall⟩]
    have e2 : uhE s = 0 := by unfold uhE; rw [if_neg (by omega), if_pos ⟨ho, hall⟩]
    have e3 : (uhL s).length = s.size / 2 := by rw [e1, prs_len]
    refine ⟨ao, ys, by rw [e3, e2, he], ?_, ?_, h3⟩
    · rw [e3]; exact h1
    · rw [e3, e1]; exact h2
theorem unhex_any (s : ByteArray) (w : World) (hs : s.size ≤ 9223372036854775807) : Calls Try.prog 22 #[.string s] w (UhPost s w) := by
  by_cases h : 131070 < s.size
  · exact (unhex_long s w h hs).mono fun e w' h' => uh_long h h'.1 h'.2
  by_cases ho : s.size % 2 = 0
  · exact (unhex_even s (s.size / 2) w (by omega) (by omega)).mono fun e w' h' => uh_even (by omega) ho h'
  · exact (unhex_odd s w (by omega) (by omega)).mono fun e w' h' => uh_odd (by omega) (.inl ho) h'.1 (by rw [h'.2]; exact Below.refl _ _)
theorem refunhex_any (s : ByteArray) (w : World) (hs : s.size ≤ 9223372036854775807) : Calls Try.prog 23 #[.string s] w (UhPost s w) := by
  by_cases h : 131070 < s.size
  · exact (refunhex_long s w h hs).mono fun e w' h' => uh_long h h'.1 h'.2
  by_cases ho : s.size % 2 = 0
  · exact (refunhex_even s (s.size / 2) w (by omega) (by omega)).mono fun e w' h' => uh_even (by omega) ho h'
  · exact (refunhex_odd s w (by omega) (by omega)).mono fun e w' h' => uh_odd (by omega) (.inl ho) h'.1 (by rw [h'.2]; exact Below.refl _ _)

set_option maxHeartbeats 1000000 in
theorem join_nil (w : World) : Calls Try.prog 20 #[.slice none 0 0] w fun e w' => e = .returned (.slice (some ⟨w.heap.size, 0, none⟩) 0 0) ∧ w' = w.alloc (.cells #[] 5) := by
  go_enter Try.func20, Try.ntmps20
  go_wp2_with fail
  go_loop [3, 11] (fun s x => x = .int .i64 0 ∧ s = .int .i64 0) (fun _ _ => 0)
  case atStart => exact ⟨rfl, rfl⟩
  case round =>
    obtain ⟨rfl, rfl⟩ := hrel
    go_wp2_with (at_make; refine wpList_make_blk _ rfl _ _ rfl 0 0 _ _ rfl rfl (by rfl) (by rfl) (by omega) (by omega) ?_)
    go_loopw [6, 24] (fun v x wr => v = .slice (some ⟨w.heap.size, 0, none⟩) 0 0 ∧ x = .int .i64 0 ∧ wr = w.alloc (.cells #[] 5)) (fun _ _ _ => 0)
    case atStart => exact ⟨rfl, rfl, rfl⟩
    case round =>
      obtain ⟨rfl, rfl, rfl⟩ := hrel
      go_wp2
      go_ret
      exact ⟨rfl, rfl⟩
end Go.Proofs.Ytglkjiebcmmglaa
