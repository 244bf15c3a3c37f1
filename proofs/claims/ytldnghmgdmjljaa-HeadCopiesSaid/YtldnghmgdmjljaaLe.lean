/-
  Numbers as eight bytes, the lowest first, and back; a reader's bytes that are left: plain words. No condition; nothing of the program is named.
-/
import Derived.Test.YtldnghmgdmjljaaMem
import Derived.Laws.BitsAllLaws
import Derived.WalkKit
import Derived.ProofKit
namespace Go.Proofs.Ytldnghmgdmjljaa
open Go.RowKit
def le : Nat → Nat → List Nat
  | 0, _ => []
  | k + 1, u => u % 256 :: le k (u / 256)
def un : List Nat → Nat
  | [] => 0
  | b :: l => b + 256 * un l
theorem le_len : ∀ k u, (le k u).length = k
  | 0, _ => rfl
  | k + 1, u => by simp [le, le_len k]
theorem le_lt : ∀ k u b, b ∈ le k u → b < 256
  | 0, _, b, h => by simp [le] at h
  | k + 1, u, b, h => by
    simp only [le, List.mem_cons] at h
    rcases h with rfl | h
    · omega
    · exact le_lt k _ b h
theorem un_le : ∀ k u, u < 256 ^ k → un (le k u) = u
  | 0, u, h => by simp at h; simp [le, un, h]
  | k + 1, u, h => by
    rw [le, un, un_le k (u / 256) (by rw [Nat.pow_succ] at h; omega)]
    omega
theorem un_lt : ∀ l : List Nat, (∀ b ∈ l, b < 256) → un l < 256 ^ l.length
  | [], _ => by simp [un]
  | b :: l, h => by
    have h1 := un_lt l (fun c hc => h c (by simp [hc]))
    have h2 := h b (by simp)
    rw [un, List.length_cons, Nat.pow_succ]
    omega
theorem le_at : ∀ k u i, i < k → (le k u)[i]? = some (u / 256 ^ i % 256)
  | 0, _, i, h => by omega
  | k + 1, u, 0, h => by simp [le]
  | k + 1, u, i + 1, h => by
    rw [le, List.getElem?_cons_succ, le_at k _ i (by omega), Nat.div_div_eq_div_mul, Nat.pow_succ, Nat.mul_comm 256]
theorem un_snoc : ∀ (l : List Nat) (b : Nat), un (l ++ [b]) = un l + 256 ^ l.length * b
  | [], b => by simp [un]
  | a :: l, b => by
    rw [List.cons_append, un, un, un_snoc l b, List.length_cons, Nat.pow_succ, Nat.mul_add, Nat.add_assoc, ← Nat.mul_assoc, Nat.mul_comm 256 (256 ^ l.length)]
theorem le_snoc : ∀ k u, le (k + 1) u = le k u ++ [u / 256 ^ k % 256]
  | 0, u => by simp [le]
  | k + 1, u => by
    rw [le, le_snoc k, le, List.cons_append, Nat.div_div_eq_div_mul, Nat.pow_succ, Nat.mul_comm 256]
/-- a number of 64 bits, without its sign -/
def nat64 (n : Int) : Nat := (n % 18446744073709551616).toNat
theorem nat64_lt (n : Int) : nat64 n < 18446744073709551616 := by unfold nat64; omega
def numB (n : Int) : List Nat := le 8 (nat64 n)
theorem numB_len (n : Int) : (numB n).length = 8 := le_len _ _
theorem numB_lt (n : Int) : ∀ b ∈ numB n, b < 256 := fun b h => le_lt _ _ b h
/-- the number of eight bytes -/
def numOf (l : List Nat) : Int := wrap64 (un l : Int)
theorem wrap_nat64 (n : Int) (h1 : -9223372036854775808 ≤ n) (h2 : n ≤ 9223372036854775807) : wrap64 (nat64 n : Int) = n := by
  unfold nat64 wrap64
  omega
theorem numOf_numB (n : Int) (h1 : -9223372036854775808 ≤ n) (h2 : n ≤ 9223372036854775807) : numOf (numB n) = n := by
  unfold numOf numB
  rw [un_le _ _ (by have := nat64_lt n; simpa using this)]
  exact wrap_nat64 n h1 h2
theorem numOf_range (l : List Nat) : -9223372036854775808 ≤ numOf l ∧ numOf l ≤ 9223372036854775807 := by
  unfold numOf wrap64
  omega

theorem wrap_mod (q : Nat) (h : q < 18446744073709551616) : wrap64 (q : Int) % 18446744073709551616 = (q : Int) := by
  unfold wrap64
  omega
theorem or64 (x y : Nat) (a b : Int) (ha : a % 18446744073709551616 = (x : Int)) (hb : b % 18446744073709551616 = (y : Int)) : bits .or .i64 a b = wrap64 ((x ||| y : Nat) : Int) := by
  have ea : (BitVec.ofInt 64 a).toNat = x := by
    rw [BitVec.toNat_ofInt]
    have : (a % ((2 ^ 64 : Nat) : Int)) = (x : Int) := ha
    rw [this, Int.toNat_natCast]
  have eb : (BitVec.ofInt 64 b).toNat = y := by
    rw [BitVec.toNat_ofInt]
    have : (b % ((2 ^ 64 : Nat) : Int)) = (y : Int) := hb
    rw [this, Int.toNat_natCast]
  show IntKind.i64.wrap ((BitVec.ofInt 64 a ||| BitVec.ofInt 64 b).toNat : Int) = _
  rw [BitVec.toNat_or, ea, eb, IntKind.wrap_i64, wrap64]
theorem or_sum (x y : Nat) (a b : Int) (hxy : x ||| y = x + y) (hlt : x + y < 18446744073709551616) (ha : a % 18446744073709551616 = (x : Int)) (hb : b % 18446744073709551616 = (y : Int)) :
    bits .or .i64 a b % 18446744073709551616 = ((x + y : Nat) : Int) ∧ bits .or .i64 a b = wrap64 ((x + y : Nat) : Int) := by
  have h2 := or64 x y a b ha hb
  rw [hxy] at h2
  exact ⟨by rw [h2]; exact wrap_mod _ hlt, h2⟩
theorem or_step (i x c p : Nat) (a b : Int) (hp : p = 2 ^ i) (hx : x < p) (hc : c < 256) (hi : i ≤ 56) (ha : a % 18446744073709551616 = (x : Int)) (hb : b % 18446744073709551616 = ((c * p : Nat) : Int)) :
    bits .or .i64 a b % 18446744073709551616 = ((x + c * p : Nat) : Int) ∧ bits .or .i64 a b = wrap64 ((x + c * p : Nat) : Int) := by
  have hp56 : p ≤ 72057594037927936 := by rw [hp, show (72057594037927936 : Nat) = 2 ^ 56 by decide]; exact Nat.pow_le_pow_right (by omega) hi
  have hj : c * p ||| x = c * p + x := nat_join i _ _ (by rw [hp]; simp) (by rw [← hp]; exact hx)
  have h2 : c * p ≤ 255 * p := Nat.mul_le_mul_right _ (by omega)
  exact or_sum x (c * p) a b (by rw [Nat.or_comm, hj, Nat.add_comm]) (by omega) ha hb

theorem numOf_eq (l : List Nat) (q : Nat) (h : un l = q) : wrap64 (q : Int) = numOf l := by rw [numOf, h]
theorem byte_mod0 (c : Nat) (h : c < 256) : (c : Int) % 18446744073709551616 = ((c * 1 : Nat) : Int) := by omega
theorem byte_mod1 (c : Nat) (h : c < 256) : ((c : Int) * 256) % 18446744073709551616 = ((c * 256 : Nat) : Int) := by omega
theorem byte_mod2 (c : Nat) (h : c < 256) : ((c : Int) * 65536) % 18446744073709551616 = ((c * 65536 : Nat) : Int) := by omega
theorem byte_mod3 (c : Nat) (h : c < 256) : ((c : Int) * 16777216) % 18446744073709551616 = ((c * 16777216 : Nat) : Int) := by omega
theorem byte_mod4 (c : Nat) (h : c < 256) : ((c : Int) * 4294967296) % 18446744073709551616 = ((c * 4294967296 : Nat) : Int) := by omega
theorem byte_mod5 (c : Nat) (h : c < 256) : ((c : Int) * 1099511627776) % 18446744073709551616 = ((c * 1099511627776 : Nat) : Int) := by omega
theorem byte_mod6 (c : Nat) (h : c < 256) : ((c : Int) * 281474976710656) % 18446744073709551616 = ((c * 281474976710656 : Nat) : Int) := by omega
theorem byte_mod7 (c : Nat) (h : c < 256) : (wrap64 ((c : Int) * 72057594037927936)) % 18446744073709551616 = ((c * 72057594037927936 : Nat) : Int) := by unfold wrap64; omega
theorem byte_lt1 (b0 : Nat) (h0 : b0 < 256) : 0 + b0 * 1 < 256 := by omega
theorem byte_lt2 (b0 b1 : Nat) (h0 : b0 < 256) (h1 : b1 < 256) : 0 + b0 * 1 + b1 * 256 < 65536 := by omega
theorem byte_lt3 (b0 b1 b2 : Nat) (h0 : b0 < 256) (h1 : b1 < 256) (h2 : b2 < 256) : 0 + b0 * 1 + b1 * 256 + b2 * 65536 < 16777216 := by omega
theorem byte_lt4 (b0 b1 b2 b3 : Nat) (h0 : b0 < 256) (h1 : b1 < 256) (h2 : b2 < 256) (h3 : b3 < 256) : 0 + b0 * 1 + b1 * 256 + b2 * 65536 + b3 * 16777216 < 4294967296 := by omega
theorem byte_lt5 (b0 b1 b2 b3 b4 : Nat) (h0 : b0 < 256) (h1 : b1 < 256) (h2 : b2 < 256) (h3 : b3 < 256) (h4 : b4 < 256) : 0 + b0 * 1 + b1 * 256 + b2 * 65536 + b3 * 16777216 + b4 * 4294967296 < 1099511627776 := by omega
theorem byte_lt6 (b0 b1 b2 b3 b4 b5 : Nat) (h0 : b0 < 256) (h1 : b1 < 256) (h2 : b2 < 256) (h3 : b3 < 256) (h4 : b4 < 256) (h5 : b5 < 256) : 0 + b0 * 1 + b1 * 256 + b2 * 65536 + b3 * 16777216 + b4 * 4294967296 + b5 * 1099511627776 < 281474976710656 := by omega
theorem byte_lt7 (b0 b1 b2 b3 b4 b5 b6 : Nat) (h0 : b0 < 256) (h1 : b1 < 256) (h2 : b2 < 256) (h3 : b3 < 256) (h4 : b4 < 256) (h5 : b5 < 256) (h6 : b6 < 256) : 0 + b0 * 1 + b1 * 256 + b2 * 65536 + b3 * 16777216 + b4 * 4294967296 + b5 * 1099511627776 + b6 * 281474976710656 < 72057594037927936 := by omega
theorem un_eight (b0 b1 b2 b3 b4 b5 b6 b7 : Nat) : un [b0, b1, b2, b3, b4, b5, b6, b7] = 0 + b0 * 1 + b1 * 256 + b2 * 65536 + b3 * 16777216 + b4 * 4294967296 + b5 * 1099511627776 + b6 * 281474976710656 + b7 * 72057594037927936 := by simp only [un]; omega
theorem or_eight (b0 b1 b2 b3 b4 b5 b6 b7 : Nat) (h0 : b0 < 256) (h1 : b1 < 256) (h2 : b2 < 256) (h3 : b3 < 256) (h4 : b4 < 256) (h5 : b5 < 256) (h6 : b6 < 256) (h7 : b7 < 256) :
    bits .or .i64 (bits .or .i64 (bits .or .i64 (bits .or .i64 (bits .or .i64 (bits .or .i64 (bits .or .i64 (bits .or .i64 0 (b0 : Int)) ((b1 : Int) * 256)) ((b2 : Int) * 65536)) ((b3 : Int) * 16777216)) ((b4 : Int) * 4294967296)) ((b5 : Int) * 1099511627776)) ((b6 : Int) * 281474976710656)) (wrap64 ((b7 : Int) * 72057594037927936)) = numOf [b0, b1, b2, b3, b4, b5, b6, b7] := by
  have z0 : (0 : Int) % 18446744073709551616 = ((0 : Nat) : Int) := by omega
  have s0 := or_step 0 _ b0 1 _ _ (by decide) (by decide) h0 (by decide) z0 (byte_mod0 b0 h0)
  have s1 := or_step 8 _ b1 256 _ _ (by decide) (byte_lt1 b0 h0) h1 (by decide) s0.1 (byte_mod1 b1 h1)
  have s2 := or_step 16 _ b2 65536 _ _ (by decide) (byte_lt2 b0 b1 h0 h1) h2 (by decide) s1.1 (byte_mod2 b2 h2)
  have s3 := or_step 24 _ b3 16777216 _ _ (by decide) (byte_lt3 b0 b1 b2 h0 h1 h2) h3 (by decide) s2.1 (byte_mod3 b3 h3)
  have s4 := or_step 32 _ b4 4294967296 _ _ (by decide) (byte_lt4 b0 b1 b2 b3 h0 h1 h2 h3) h4 (by decide) s3.1 (byte_mod4 b4 h4)
  have s5 := or_step 40 _ b5 1099511627776 _ _ (by decide) (byte_lt5 b0 b1 b2 b3 b4 h0 h1 h2 h3 h4) h5 (by decide) s4.1 (byte_mod5 b5 h5)
  have s6 := or_step 48 _ b6 281474976710656 _ _ (by decide) (byte_lt6 b0 b1 b2 b3 b4 b5 h0 h1 h2 h3 h4 h5) h6 (by decide) s5.1 (byte_mod6 b6 h6)
  have s7 := or_step 56 _ b7 72057594037927936 _ _ (by decide) (byte_lt7 b0 b1 b2 b3 b4 b5 b6 h0 h1 h2 h3 h4 h5 h6) h7 (by decide) s6.1 (byte_mod7 b7 h7)
  exact s7.2.trans (numOf_eq _ _ (un_eight b0 b1 b2 b3 b4 b5 b6 b7))

/-- a reader: the bytes that it hasn't read; is it bad? -/
structure RD where
  bs : List Nat
  bad : Bool
def RD.spoilt : RD := ⟨[], true⟩
/-- the next n bytes are taken -/
def RD.fits (s : RD) (n : Int) : Bool := !s.bad && decide (0 ≤ n) && decide (n ≤ s.bs.length)
def RD.take (s : RD) (n : Int) : RD := if s.fits n then ⟨s.bs.drop n.toNat, false⟩ else .spoilt
def RD.got (s : RD) (n : Int) : List Nat := if s.fits n then s.bs.take n.toNat else []
def RD.Good (s : RD) : Prop := (s.bad = true → s.bs = []) ∧ ∀ b ∈ s.bs, b < 256
theorem RD.take_good {s : RD} (h : s.Good) (n : Int) : (s.take n).Good := by
  unfold RD.take
  split
  · exact ⟨fun e => (by cases e), fun b hb => h.2 b (List.mem_of_mem_drop hb)⟩
  · exact ⟨fun _ => rfl, fun b hb => by cases hb⟩
theorem RD.spoilt_good : RD.spoilt.Good := ⟨fun _ => rfl, fun b hb => by cases hb⟩
theorem RD.got_lt {s : RD} (h : s.Good) (n : Int) : ∀ b ∈ s.got n, b < 256 := by
  unfold RD.got
  split
  · exact fun b hb => h.2 b (List.mem_of_mem_take hb)
  · exact fun b hb => by cases hb
def RD.byte (s : RD) : Nat := (s.got 1).headD 0
def RD.num (s : RD) : Int := numOf (s.got 8)
def RD.flagTo (s : RD) : RD := if 1 < s.byte then .spoilt else s.take 1
def RD.flag (s : RD) : Bool := s.byte == 1
def RD.bytesTo (s : RD) : RD := (s.take 8).take s.num
def RD.bytes (s : RD) : List Nat := (s.take 8).got s.num
def RD.many (s : RD) : Bool := decide (0 ≤ s.num) && decide (s.num ≤ ((s.take 8).bs.length / 8 : Nat)) && !(s.take 8).bad
/-- k numbers, one behind the other -/
def RD.run : Nat → RD → RD
  | 0, s => s
  | k + 1, s => (RD.run k s).take 8
def RD.rows (s : RD) : Nat → List Int
  | 0 => []
  | k + 1 => RD.rows s k ++ [(RD.run k s).num]
def RD.numsTo (s : RD) : RD := if s.many then RD.run s.num.toNat (s.take 8) else .spoilt
def RD.nums (s : RD) : List Int := if s.many then RD.rows (s.take 8) s.num.toNat else []
theorem RD.run_good {s : RD} (h : s.Good) : ∀ k, (RD.run k s).Good
  | 0 => h
  | k + 1 => RD.take_good (RD.run_good h k) 8
theorem RD.rows_len (s : RD) : ∀ k, (RD.rows s k).length = k
  | 0 => rfl
  | k + 1 => by simp [RD.rows, RD.rows_len s k]
theorem RD.flagTo_good {s : RD} (h : s.Good) : s.flagTo.Good := by
  unfold RD.flagTo
  split
  · exact RD.spoilt_good
  · exact RD.take_good h 1
theorem RD.bytesTo_good {s : RD} (h : s.Good) : s.bytesTo.Good := RD.take_good (RD.take_good h 8) _
theorem RD.numsTo_good {s : RD} (h : s.Good) : s.numsTo.Good := by
  unfold RD.numsTo
  split
  · exact RD.run_good (RD.take_good h 8) _
  · exact RD.spoilt_good
theorem RD.byte_lt {s : RD} (h : s.Good) : s.byte < 256 := by
  unfold RD.byte
  have := RD.got_lt h 1
  cases hg : s.got 1 with
  | nil => simp
  | cons b l => rw [hg] at this; exact this b (by simp)
end Go.Proofs.Ytldnghmgdmjljaa
