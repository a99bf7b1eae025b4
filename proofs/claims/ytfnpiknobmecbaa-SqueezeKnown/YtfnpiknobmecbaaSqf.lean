/- SqueezeReads' walk. -/
import Derived.Test.YtfnpiknobmecbaaSqe
import Derived.Test.YtfnpiknobmecbaaKb
namespace Go.Proofs.Ytfnpiknobmecbaa
open Go.ChangeShapes Go.WideShapes Go.ChangeAt Go.RowKit
set_option linter.unusedVariables false
set_option linter.unusedSimpArgs false

theorem qread_in (zs : List Int) (d : Nat) (back : Bool) (h : d ≤ zs.length) : qread zs d back = qres (qgo zs back d d none []) := by
  unfold qread qres
  rw [if_neg (by omega), Int.toNat_natCast]
  cases qgo zs back d d none [] <;> rfl
theorem qread_out (zs : List Int) (d : Int) (back : Bool) (h : d < 0 ∨ (zs.length : Int) < d) : qread zs d back = ([], 0, 2) := by
  unfold qread; rw [if_pos h]
set_option maxRecDepth 100000 in
set_option maxHeartbeats 4000000 in
theorem sread_out (a : Option Addr) (len cap : Nat) (d : Int) (back : Bool) (w : World) (hm : len ≤ 140737488355328) (h : d < 0 ∨ (0 ≤ d ∧ (len : Int) < d)) :
    Calls Try.prog 17 #[.slice a len cap, .int .i64 d, .bool back] w (SPost ([], 0, 2) w) := by
  rcases h with h | ⟨h0, h⟩
  all_goals
    go_enter Try.func17, Try.ntmps17
    go_wp2
    go_step3
    go_wp2
    try rw [Exit.noGoto_ret]
    go_ret3
    exact ⟨.slice none 0 0, [], rfl, OwnT.nil _ _ _, rfl, Below.refl _ _⟩
set_option maxRecDepth 100000 in
set_option maxHeartbeats 4000000 in
theorem rread_out (a : Option Addr) (len cap : Nat) (d : Int) (back : Bool) (w : World) (hm : len ≤ 140737488355328) (h : d < 0 ∨ (0 ≤ d ∧ (len : Int) < d)) :
    Calls Try.prog 18 #[.slice a len cap, .int .i64 d, .bool back] w (SPost ([], 0, 2) w) := by
  rcases h with h | ⟨h0, h⟩
  all_goals
    go_enter Try.func18, Try.ntmps18
    go_wp2
    go_ret3
    exact ⟨.slice none 0 0, [], rfl, OwnT.nil _ _ _, rfl, Below.refl _ _⟩
theorem sread_any (a : Option Addr) (len cap : Nat) (d : Int) (back : Bool) (zs : List Int) (w : World) (hr : Rd w a zs) (hl : zs.length = len) (hm : len ≤ 140737488355328) (hc : len ≤ cap) (hc2 : cap ≤ 9223372036854775807) :
    Calls Try.prog 17 #[.slice a len cap, .int .i64 d, .bool back] w (SPost (qread zs d back) w) := by
  by_cases h : d < 0 ∨ (len : Int) < d
  · rw [qread_out zs d back (by rw [hl]; exact h)]
    exact sread_out a len cap d back w hm (by omega)
  · obtain ⟨k, rfl⟩ : ∃ k : Nat, d = k := ⟨d.toNat, by omega⟩
    rw [qread_in zs k back (by omega)]
    exact sread_in a len cap k back zs w hr hl hm hc hc2 (by omega)
theorem rread_any (a : Option Addr) (len cap : Nat) (d : Int) (back : Bool) (zs : List Int) (w : World) (hr : Rd w a zs) (hl : zs.length = len) (hm : len ≤ 140737488355328) (hc : len ≤ cap) (hc2 : cap ≤ 9223372036854775807) :
    Calls Try.prog 18 #[.slice a len cap, .int .i64 d, .bool back] w (SPost (qread zs d back) w) := by
  by_cases h : d < 0 ∨ (len : Int) < d
  · rw [qread_out zs d back (by rw [hl]; exact h)]
    exact rread_out a len cap d back w hm (by omega)
  · obtain ⟨k, rfl⟩ : ∃ k : Nat, d = k := ⟨d.toNat, by omega⟩
    rw [qread_in zs k back (by omega)]
    exact rread_in a len cap k back zs w hr hl hm hc hc2 (by omega)
set_option maxRecDepth 100000 in
theorem overT_nil (w : World) : Calls Try.prog 21 #[.slice none 0 0] w fun e w' => e = .returned (.tuple #[]) ∧ w' = w := by
  go_enter Try.func21, Try.ntmps21
  go_wp2
  go_loopw [3] (fun i wr => i = .int .i64 0 ∧ wr = w) (fun _ _ => 0)
  case atStart => exact ⟨rfl, rfl⟩
  case round =>
    obtain ⟨rfl, rfl⟩ := hrel
    go_wp2
    go_end0
    exact ⟨rfl, rfl⟩
theorem OwnT.off {B : Nat} {w w' : World} {v : Value} {n : Nat} {ss : List ByteArray} {M : Nat} (h : OwnT B w v n ss M) {o : Option Nat} (hg : w.grownBy w' o) (ho : ∀ j, o = some j → j < B) : OwnT B w' v n ss M :=
  ⟨h.1.keep (fun g e hl => hg.block g hl (fun e2 => by have a1 := h.1.lt g e; have a2 := ho g e2.symm; omega)), h.2⟩
theorem overT_own {B n : Nat} {w0 W : World} {ao : Option Addr} {c M : Nat} {ys : List ByteArray} (h : OwnT B w0 (.slice ao n c) n ys M) (hM : M ≤ 1000000000000) (hb : Below w0.heap.size w0 W) :
    Calls Try.prog 21 #[.slice ao n c] W fun e w' => e = .returned (.tuple #[]) ∧ Hid (∃ o : Option Nat, W.grownBy w' o ∧ ∀ j, o = some j → B ≤ j ∧ j < w0.heap.size) := by
  obtain ⟨h1, h2⟩ := h
  rcases h1 with ⟨e, hn, _⟩ | ⟨g, e, hg, hblk, hn, hm⟩
  · cases e
    refine (overT_nil W).mono ?_
    rintro e w' ⟨rfl, rfl⟩
    exact ⟨rfl, none, ⟨rfl, rfl, rfl, Nat.le_refl _, fun _ _ _ => rfl⟩, fun j e => by cases e⟩
  · injection e with e1 e2 e3
    subst e1 e3
    rw [tv_len] at hn hm ⊢
    refine (overT_blk g n ys.length ys W (hblk.below hb) rfl hn hm (fun s hs => by have := h2 s hs; omega)).mono ?_
    rintro e w' ⟨rfl, H⟩
    exact ⟨rfl, some g, H.out.2.1, fun j e => by injection e with e; subst e; exact ⟨hg, hblk.lt⟩⟩
end Go.Proofs.Ytfnpiknobmecbaa
