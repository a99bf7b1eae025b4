/- The flags as numbers, without any program. -/
import Derived.Laws.BitsAllLaws
import Derived.WalkKit
namespace Go.Proofs.Ytmlccnpondemiaa
set_option linter.unusedVariables false

theorem wrap_i64_nat (n : Nat) (h : n < 65536) : IntKind.i64.wrap (n : Int) = (n : Int) := by
  have e : (n : Int) % 2 ^ 64 = n := Int.emod_eq_of_lt (by omega) (by omega)
  simp only [IntKind.wrap, IntKind.bits, IntKind.signed, e]
  rw [if_neg]
  simp
  omega
theorem i64_or_nat (a b : Nat) (ha : a < 65536) (hb : b < 65536) : bits .or .i64 (a : Int) (b : Int) = ((a ||| b : Nat) : Int) := by
  have hx : a ||| b < 2 ^ 16 := Nat.or_lt_two_pow (by omega) (by omega)
  show IntKind.i64.wrap ((BitVec.ofInt 64 (a : Int) ||| BitVec.ofInt 64 (b : Int)).toNat : Int) = _
  rw [BitVec.toNat_or, ofInt_u64 a (by omega), ofInt_u64 b (by omega)]
  exact wrap_i64_nat _ (by omega)
theorem i64_and_nat (a b : Nat) (ha : a < 65536) (hb : b < 65536) : bits .and .i64 (a : Int) (b : Int) = ((a &&& b : Nat) : Int) := by
  have hx : a &&& b < 2 ^ 16 := Nat.and_lt_two_pow _ (by omega)
  show IntKind.i64.wrap ((BitVec.ofInt 64 (a : Int) &&& BitVec.ofInt 64 (b : Int)).toNat : Int) = _
  rw [BitVec.toNat_and, ofInt_u64 a (by omega), ofInt_u64 b (by omega)]
  exact wrap_i64_nat _ (by omega)

/-- The flags' bits, in the code's order. -/
def fls (rs aa tc rd ra ad cd : Bool) : List (Bool × Nat) := [(rs, 32768), (aa, 1024), (tc, 512), (rd, 256), (ra, 128), (ad, 32), (cd, 16)]
def accN (n : Nat) (l : List (Bool × Nat)) : Nat := l.foldl (fun n x => if x.1 then n ||| x.2 else n) n
theorem accN_lt (l : List (Bool × Nat)) : ∀ n, n < 65536 → (∀ x ∈ l, x.2 < 65536) → accN n l < 65536 := by
  induction l with
  | nil => intro n h _; exact h
  | cons x r ih =>
    intro n h hx
    show accN (if x.1 then n ||| x.2 else n) r < 65536
    refine ih _ ?_ fun y hy => hx y (List.mem_cons_of_mem _ hy)
    split
    · exact Nat.or_lt_two_pow (n := 16) h (hx x List.mem_cons_self)
    · exact h
theorem fls_lt (rs aa tc rd ra ad cd : Bool) (x : Bool × Nat) (hx : x ∈ fls rs aa tc rd ra ad cd) : x.2 < 65536 := by
  simp only [fls, List.mem_cons, List.not_mem_nil, or_false] at hx
  rcases hx with rfl | rfl | rfl | rfl | rfl | rfl | rfl <;> simp
def packN (op rc : Nat) (rs aa tc rd ra ad cd : Bool) : Nat := accN (op * 2048 ||| rc) (fls rs aa tc rd ra ad cd)
theorem head_lt {op rc : Nat} (h1 : op < 16) (h2 : rc < 16) : op * 2048 ||| rc < 65536 := Nat.or_lt_two_pow (n := 16) (by omega) (by omega)
theorem packN_lt {op rc : Nat} (h1 : op < 16) (h2 : rc < 16) (rs aa tc rd ra ad cd : Bool) : packN op rc rs aa tc rd ra ad cd < 65536 :=
  accN_lt _ _ (head_lt h1 h2) (fls_lt rs aa tc rd ra ad cd)
theorem acc_take_lt {op rc : Nat} (h1 : op < 16) (h2 : rc < 16) (rs aa tc rd ra ad cd : Bool) (k : Nat) : accN (op * 2048 ||| rc) ((fls rs aa tc rd ra ad cd).take k) < 65536 :=
  accN_lt _ _ (head_lt h1 h2) fun x hx => fls_lt _ _ _ _ _ _ _ x (List.mem_of_mem_take hx)

theorem or_bit (n k : Nat) (h : n / 2 ^ k % 2 = 0) : n ||| 2 ^ k = n + 2 ^ k := by
  have hp : 0 < 2 ^ k := Nat.two_pow_pos k
  have e2 : 2 ^ (k + 1) = 2 ^ k * 2 := Nat.pow_succ ..
  have hlo : n % 2 ^ k < 2 ^ k := Nat.mod_lt _ hp
  have e0 : n = n / 2 ^ (k + 1) * 2 ^ (k + 1) + n % 2 ^ k := by
    have h1 := Nat.div_add_mod n (2 ^ k)
    have h2 : n / 2 ^ (k + 1) = n / 2 ^ k / 2 := by rw [e2, Nat.div_div_eq_div_mul]
    have h3 : n / 2 ^ k / 2 * 2 = n / 2 ^ k := by omega
    rw [h2, e2]
    have h4 : n / 2 ^ k / 2 * (2 ^ k * 2) = 2 ^ k * (n / 2 ^ k / 2 * 2) := by rw [Nat.mul_comm (2 ^ k) 2, ← Nat.mul_assoc, Nat.mul_comm]
    rw [h4, h3]
    exact h1.symm
  have hm : n / 2 ^ (k + 1) * 2 ^ (k + 1) % 2 ^ (k + 1) = 0 := Nat.mul_mod_left _ _
  have j1 : n / 2 ^ (k + 1) * 2 ^ (k + 1) ||| n % 2 ^ k = n / 2 ^ (k + 1) * 2 ^ (k + 1) + n % 2 ^ k := nat_join (k + 1) _ _ hm (by omega)
  have j2 : 2 ^ k ||| n % 2 ^ k = 2 ^ k + n % 2 ^ k := nat_join k _ _ (Nat.mod_self _) hlo
  have j3 : n / 2 ^ (k + 1) * 2 ^ (k + 1) ||| (2 ^ k + n % 2 ^ k) = n / 2 ^ (k + 1) * 2 ^ (k + 1) + (2 ^ k + n % 2 ^ k) := nat_join (k + 1) _ _ hm (by omega)
  calc n ||| 2 ^ k = (n / 2 ^ (k + 1) * 2 ^ (k + 1) ||| n % 2 ^ k) ||| 2 ^ k := by rw [j1, ← e0]
    _ = n / 2 ^ (k + 1) * 2 ^ (k + 1) ||| (2 ^ k ||| n % 2 ^ k) := by rw [Nat.or_assoc, Nat.or_comm (n % 2 ^ k)]
    _ = n / 2 ^ (k + 1) * 2 ^ (k + 1) + (2 ^ k + n % 2 ^ k) := by rw [j2, j3]
    _ = n + 2 ^ k := by omega
theorem step_bit (n k : Nat) (b : Bool) (h : n / 2 ^ k % 2 = 0) : (if b then n ||| 2 ^ k else n) = n + 2 ^ k * b.toNat := by
  cases b
  · simp
  · simp [or_bit n k h]
theorem packN_sum {op rc : Nat} (h1 : op < 16) (h2 : rc < 16) (rs aa tc rd ra ad cd : Bool) :
    packN op rc rs aa tc rd ra ad cd = op * 2048 + rc + 32768 * rs.toNat + 1024 * aa.toNat + 512 * tc.toNat + 256 * rd.toNat + 128 * ra.toNat + 32 * ad.toNat + 16 * cd.toNat := by
  have b1 := Bool.toNat_le rs; have b2 := Bool.toNat_le aa; have b3 := Bool.toNat_le tc; have b4 := Bool.toNat_le rd; have b5 := Bool.toNat_le ra; have b6 := Bool.toNat_le ad; have b7 := Bool.toNat_le cd
  have j0 : op * 2048 ||| rc = op * 2048 + rc := nat_join 11 _ _ (by omega) (by omega)
  simp only [packN, accN, fls, List.foldl_cons, List.foldl_nil, j0]
  have s1 := step_bit (op * 2048 + rc) 15 rs (by simp only [Nat.reducePow]; omega)
  simp only [Nat.reducePow] at s1
  rw [s1]
  have s2 := step_bit (op * 2048 + rc + 32768 * rs.toNat) 10 aa (by simp only [Nat.reducePow]; omega)
  simp only [Nat.reducePow] at s2
  rw [s2]
  have s3 := step_bit (op * 2048 + rc + 32768 * rs.toNat + 1024 * aa.toNat) 9 tc (by simp only [Nat.reducePow]; omega)
  simp only [Nat.reducePow] at s3
  rw [s3]
  have s4 := step_bit (op * 2048 + rc + 32768 * rs.toNat + 1024 * aa.toNat + 512 * tc.toNat) 8 rd (by simp only [Nat.reducePow]; omega)
  simp only [Nat.reducePow] at s4
  rw [s4]
  have s5 := step_bit (op * 2048 + rc + 32768 * rs.toNat + 1024 * aa.toNat + 512 * tc.toNat + 256 * rd.toNat) 7 ra (by simp only [Nat.reducePow]; omega)
  simp only [Nat.reducePow] at s5
  rw [s5]
  have s6 := step_bit (op * 2048 + rc + 32768 * rs.toNat + 1024 * aa.toNat + 512 * tc.toNat + 256 * rd.toNat + 128 * ra.toNat) 5 ad (by simp only [Nat.reducePow]; omega)
  simp only [Nat.reducePow] at s6
  rw [s6]
  have s7 := step_bit (op * 2048 + rc + 32768 * rs.toNat + 1024 * aa.toNat + 512 * tc.toNat + 256 * rd.toNat + 128 * ra.toNat + 32 * ad.toNat) 4 cd (by simp only [Nat.reducePow]; omega)
  simp only [Nat.reducePow] at s7
  rw [s7]

/-- What a number's flags are. -/
def unop (n : Nat) : Nat := n / 2048 % 16
def unrc (n : Nat) : Nat := n % 16
def unfl (n v : Nat) : Bool := n / v % 2 == 1
theorem unfl_nat (n v : Nat) : (unfl n v).toNat = n / v % 2 := by
  unfold unfl
  rcases Nat.mod_two_eq_zero_or_one (n / v) with h | h <;> simp [h]
theorem unfl_of {n v : Nat} {b : Bool} (h : n / v % 2 = b.toNat) : unfl n v = b := by
  unfold unfl; rw [h]; cases b <;> rfl
def packOf (n : Nat) : Nat := packN (unop n) (unrc n) (unfl n 32768) (unfl n 1024) (unfl n 512) (unfl n 256) (unfl n 128) (unfl n 32) (unfl n 16)
theorem un_pack {op rc : Nat} (h1 : op < 16) (h2 : rc < 16) (rs aa tc rd ra ad cd : Bool) (N : Nat) (hN : N = packN op rc rs aa tc rd ra ad cd) :
    unop N = op ∧ unrc N = rc ∧ unfl N 64 = false ∧ unfl N 32768 = rs ∧ unfl N 1024 = aa ∧ unfl N 512 = tc ∧ unfl N 256 = rd ∧ unfl N 128 = ra ∧ unfl N 32 = ad ∧ unfl N 16 = cd := by
  rw [packN_sum h1 h2] at hN
  have b1 := Bool.toNat_le rs; have b2 := Bool.toNat_le aa; have b3 := Bool.toNat_le tc; have b4 := Bool.toNat_le rd; have b5 := Bool.toNat_le ra; have b6 := Bool.toNat_le ad; have b7 := Bool.toNat_le cd
  refine ⟨by unfold unop; omega, by unfold unrc; omega, unfl_of (by rw [Bool.toNat_false]; omega), unfl_of (by omega), unfl_of (by omega), unfl_of (by omega), unfl_of (by omega), unfl_of (by omega), unfl_of (by omega), unfl_of (by omega)⟩
theorem pack_un (n : Nat) (h : n < 65536) (h6 : unfl n 64 = false) : packOf n = n := by
  have h6' := unfl_nat n 64
  rw [h6, Bool.toNat_false] at h6'
  unfold packOf
  rw [packN_sum (by unfold unop; omega) (by unfold unrc; omega)]
  simp only [unfl_nat, unop, unrc]
  omega
/-- The document's sum. -/
def wt (b : Bool) (n : Nat) : Nat := if b then n else 0
theorem wt_nat (b : Bool) (n : Nat) : wt b n = n * b.toNat := by cases b <;> simp [wt]
theorem pack_bytes {op rc : Nat} (h1 : op < 16) (h2 : rc < 16) (rs aa tc rd ra ad cd : Bool) :
    packN op rc rs aa tc rd ra ad cd = (wt rs 128 + 8 * op + wt aa 4 + wt tc 2 + wt rd 1) * 256 + (wt ra 128 + wt ad 32 + wt cd 16 + rc) := by
  rw [packN_sum h1 h2]
  simp only [wt_nat]
  omega
end Go.Proofs.Ytmlccnpondemiaa
