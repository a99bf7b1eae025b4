/- Names, as the document has them: their size, whether they may be, what they have in common. -/
import Derived.Test.YtfnpiknobmecbaaTm
import Derived.Test.YtfnpiknobmecbaaRtx
import Derived.Test.YtfnpiknobmecbaaRpar
namespace Go.Proofs.Ytfnpiknobmecbaa
open Go.ChangeShapes Go.WideShapes Go.ChangeAt Go.RowKit
set_option linter.unusedVariables false
set_option linter.unusedSimpArgs false


/-- The size of a name. -/
def nsz : List ByteArray → Nat
  | [] => 1
  | s :: r => s.size + 1 + nsz r
theorem nsz_snoc (l : List ByteArray) (s : ByteArray) : nsz (l ++ [s]) = nsz l + s.size + 1 := by
  induction l with
  | nil => simp [nsz]; omega
  | cons x l ih => simp only [List.cons_append, nsz, ih]; omega
theorem nsz_le (l : List ByteArray) (k : Nat) : nsz (l.take k) ≤ nsz l := by
  induction l generalizing k with
  | nil => simp [nsz]
  | cons x l ih =>
    cases k with
    | zero => simp [nsz]; omega
    | succ k => simp only [List.take_succ_cons, nsz]; have := ih k; omega
theorem take_snocT (ss : List ByteArray) (k : Nat) (h : k < ss.length) : ss.take (k + 1) = ss.take k ++ [ss[k]] := List.take_succ_eq_append_getElem h
/-- Whether all labels may be; the error of a name. -/
def labsOk (ss : List ByteArray) : Prop := ∀ s ∈ ss, chk s.size = 0
instance (ss : List ByteArray) : Decidable (labsOk ss) := by unfold labsOk; exact inferInstance
def nck (ss : List ByteArray) : Int := if labsOk ss then (if 255 < nsz ss then 5 else 0) else 4
theorem chk_cases (n : Nat) : chk n = 0 ∨ chk n = 4 := by unfold chk; split <;> simp
set_option maxRecDepth 100000 in
set_option maxHeartbeats 1000000 in
theorem refsize_any (a : Option Addr) (len cap : Nat) (ss : List ByteArray) (w : World) (hr : RdT w a ss) (hl : ss.length = len) (hm : nsz ss ≤ 1000000000000000) :
    Calls Try.prog 40 #[.slice a len cap] w fun e w' => e = .returned (.int .i64 (nsz ss)) ∧ w' = w := by
  have HR : Hid (RdT w a ss) := hr
  have HL : Hid (ss.length = len) := hl
  have hln : len ≤ 9223372036854775807 := by
    have : ∀ l : List ByteArray, l.length ≤ nsz l := by
      intro l; induction l with
      | nil => simp [nsz]
      | cons x l ih => simp only [List.length_cons, nsz]; omega
    have := this ss
    omega
  obtain ⟨T, hT⟩ : ∃ T, nsz ss = T := ⟨_, rfl⟩
  have HT : Hid (nsz ss = T) := hT
  rw [hT] at hm ⊢
  clear hr hl hT
  go_enter Try.func40, Try.ntmps40
  go_wp2_with fail
  go_loop [3, 4] (fun n x => ∃ k m : Nat, k ≤ len ∧ m ≤ T ∧ x = .int .i64 k ∧ n = .int .i64 m ∧ Hid (nsz (ss.take k) = m)) (fun _ x => len - (intOf x).toNat)
  case atStart => exact ⟨0, 1, Nat.zero_le _, by rw [← HT.out]; exact nsz_le ss 0, rfl, rfl, rfl⟩
  case round =>
    obtain ⟨k, m, hk, hmT, rfl, rfl, HM⟩ := hrel
    by_cases hlt : k < len
    · have hlt' : (k : Int) < (len : Int) := by omega
      have hks : k < ss.length := by rw [HL.out]; exact hlt
      obtain ⟨b, o, rfl, hb, hc⟩ := HR.out.at k hks
      have hn : nsz (ss.take (k + 1)) = m + ss[k].size + 1 := by rw [take_snocT ss k hks, nsz_snoc, HM.out]
      have hle := nsz_le ss (k + 1)
      rw [hn, HT.out] at hle
      have HN : Hid (nsz (ss.take (k + 1)) = m + ss[k].size + 1) := hn
      clear hn
      generalize ss[k] = s at *
      go_wp2
      go_round
      case rel => exact ⟨k + 1, m + s.size + 1, by omega, hle, by go_num, by go_num, HN⟩
      case measure => simp [intOf]; omega
    · have hge : (len : Int) ≤ (k : Int) := by omega
      have e : m = T := by rw [← HM.out, ← HT.out, List.take_of_length_le (by rw [HL.out]; omega)]
      subst e
      go_wp2
      go_ret
      exact ⟨rfl, rfl⟩
set_option maxRecDepth 100000 in
set_option maxHeartbeats 1000000 in
theorem refcheck_any (a : Option Addr) (len cap : Nat) (ss : List ByteArray) (w : World) (hr : RdT w a ss) (hl : ss.length = len) (hm : nsz ss ≤ 1000000000000000) (hlen : len ≤ 9223372036854775807) (hz : ∀ s ∈ ss, s.size ≤ 9223372036854775807) :
    Calls Try.prog 50 #[.slice a len cap] w fun e w' => e = .returned (.int .i64 (nck ss)) ∧ w' = w := by
  have HR : Hid (RdT w a ss ∧ ∀ s ∈ ss, s.size ≤ 9223372036854775807) := ⟨hr, hz⟩
  have HL : Hid (ss.length = len) := hl
  have HS : Hid (∀ W, RdT W a ss → Calls Try.prog 40 #[.slice a len cap] W fun e w' => e = .returned (.int .i64 (nsz ss)) ∧ w' = W) := fun W hW => refsize_any a len cap ss W hW hl hm
  obtain ⟨T, hT⟩ : ∃ T, nsz ss = T := ⟨_, rfl⟩
  have HT : Hid (nsz ss = T) := hT
  rw [hT] at hm HS
  clear hr hl hT hz
  go_enter Try.func50, Try.ntmps50
  go_wp2_with fail
  go_loopw [3] (fun x wr => ∃ k : Nat, k ≤ len ∧ x = .int .i64 k ∧ wr = w ∧ Hid (∀ i (h : i < ss.length), i < k → chk ss[i].size = 0)) (fun x _ => len - (intOf x).toNat)
  case atStart => exact ⟨0, Nat.zero_le _, rfl, rfl, fun i _ h => absurd h (by omega)⟩
  case round =>
    obtain ⟨k, hk, rfl, rfl, HK⟩ := hrel
    by_cases hlt : k < len
    · have hlt' : (k : Int) < (len : Int) := by omega
      have hks : k < ss.length := by rw [HL.out]; exact hlt
      obtain ⟨b, o, rfl, hb, hc⟩ := HR.out.1.at k hks
      have HC : Hid (∀ W, Calls Try.prog 55 #[.string ss[k]] W fun e w' => e = .returned (.int .i64 (chk ss[k].size)) ∧ w' = W) := fun W => rchk_any ss[k] W (HR.out.2 _ (List.getElem_mem hks))
      rcases chk_cases ss[k].size with hk0 | hk4
      · have HN : Hid (∀ i (h : i < ss.length), i < k + 1 → chk ss[i].size = 0) := by
          intro i h hi
          by_cases e : i = k
          · subst e; exact hk0
          · exact HK.out i h (by omega)
        rw [hk0] at HC
        clear hk0 HK
        generalize ss[k] = s at *
        go_wp2_with fail
        refine (HC.out _).mono ?_
        rintro e w1 ⟨rfl, rfl⟩
        go_wp2
        exact ⟨⟨k + 1, by omega, by go_num, trivial, HN⟩, by simp [intOf]; omega⟩
      · have HE : Hid (nck ss = 4) := by
          show nck ss = 4
          unfold nck
          rw [if_neg (fun h => by have := h _ (List.getElem_mem hks); rw [hk4] at this; cases this)]
        rw [hk4] at HC
        clear hk4 HK
        generalize ss[k] = s at *
        go_wp2_with fail
        refine (HC.out _).mono ?_
        rintro e w1 ⟨rfl, rfl⟩
        go_wp2
        go_ret
        exact ⟨by rw [HE.out]; rfl, rfl⟩
    · have hge : (len : Int) ≤ (k : Int) := by omega
      have HO : Hid (labsOk ss) := by
        intro s hs
        obtain ⟨i, hi, rfl⟩ := List.getElem_of_mem hs
        exact HK.out i hi (by have := HL.out; omega)
      by_cases hb : 255 < T
      · have HE : Hid (nck ss = 5) := by show nck ss = 5; unfold nck; rw [if_pos HO.out, HT.out, if_pos hb]
        have hb' : (255 : Int) < (T : Int) := by omega
        clear HK HO
        go_wp2_with fail
        refine (HS.out _ HR.out.1).mono ?_
        rintro e w1 ⟨rfl, rfl⟩
        go_wp2
        go_ret
        exact ⟨by rw [HE.out]; rfl, rfl⟩
      · have HE : Hid (nck ss = 0) := by show nck ss = 0; unfold nck; rw [if_pos HO.out, HT.out, if_neg hb]
        have hb' : ¬ (255 : Int) < (T : Int) := by omega
        clear HK HO
        go_wp2_with fail
        refine (HS.out _ HR.out.1).mono ?_
        rintro e w1 ⟨rfl, rfl⟩
        go_wp2
        go_ret
        exact ⟨by rw [HE.out]; rfl, rfl⟩
/-- How many first labels of two lists are the same; how two lists stand, the first labels first. -/
def comR : List ByteArray → List ByteArray → Nat
  | x :: a, y :: b => if cmp x y = 0 then comR a b + 1 else 0
  | _, _ => 0
def cmpR : List ByteArray → List ByteArray → Int
  | [], [] => 0
  | [], _ :: _ => -1
  | _ :: _, [] => 1
  | x :: a, y :: b => if cmp x y = 0 then cmpR a b else cmp x y
/-- The same, of names: from the last label on. -/
def ncom (a b : List ByteArray) : Nat := comR a.reverse b.reverse
def ncmp (a b : List ByteArray) : Int := cmpR a.reverse b.reverse
theorem rev_drop (ss : List ByteArray) (k : Nat) (h : k < ss.length) : ss.reverse.drop k = ss[ss.length - 1 - k] :: ss.reverse.drop (k + 1) := by
  rw [List.drop_eq_getElem_cons (by simpa using h)]
  simp
theorem comR_le : ∀ a b : List ByteArray, comR a b ≤ a.length ∧ comR a b ≤ b.length
  | [], _ => by simp [comR]
  | _ :: _, [] => by simp [comR]
  | x :: a, y :: b => by
    unfold comR
    have := comR_le a b
    split <;> simp <;> omega
theorem ncom_le (a b : List ByteArray) : ncom a b ≤ a.length ∧ ncom a b ≤ b.length := by
  have := comR_le a.reverse b.reverse
  simpa [ncom] using this
theorem cmpR_com : ∀ a b : List ByteArray, cmpR a b = if comR a b = a.length ∧ comR a b = b.length then 0 else if comR a b = a.length then -1 else if comR a b = b.length then 1 else cmp (a.getD (comR a b) ⟨#[]⟩) (b.getD (comR a b) ⟨#[]⟩)
  | [], [] => by simp [cmpR, comR]
  | [], _ :: _ => by simp [cmpR, comR]
  | _ :: _, [] => by simp [cmpR, comR]
  | x :: a, y :: b => by
    unfold cmpR comR
    by_cases h : cmp x y = 0
    · rw [if_pos h, if_pos h, cmpR_com a b]
      simp
    · rw [if_neg h, if_neg h]
      simp
end Go.Proofs.Ytfnpiknobmecbaa
