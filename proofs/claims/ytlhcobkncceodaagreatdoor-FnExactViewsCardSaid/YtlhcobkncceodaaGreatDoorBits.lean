/- Bits of int (64 bits) at numbers that are not negative: 'or' and 'xor' are those of the natural numbers; an 'or' onto free low bits is a sum. -/
import Derived.Laws.BitsAllLaws
import Derived.Laws.BitsLemmas
import Derived.WalkKit
namespace Go.Proofs.YtlhcobkncceodaaGreatDoor
open Go.RowKit

theorem toNat_ofInt64 (a : Nat) (ha : a < 9223372036854775808) : (BitVec.ofInt 64 (a : Int)).toNat = a := by
  rw [BitVec.ofInt_natCast, BitVec.toNat_ofNat]; exact Nat.mod_eq_of_lt (by omega)
theorem or64 (a b : Nat) (ha : a < 9223372036854775808) (hb : b < 9223372036854775808) : bits .or .i64 (a : Int) (b : Int) = ((a ||| b : Nat) : Int) := by
  have hx : a ||| b < 2 ^ 63 := Nat.or_lt_two_pow (by omega) (by omega)
  show IntKind.i64.wrap ((BitVec.ofInt 64 (a : Int) ||| BitVec.ofInt 64 (b : Int)).toNat : Int) = _
  rw [BitVec.toNat_or, toNat_ofInt64 a ha, toNat_ofInt64 b hb, IntKind.wrap_i64]
  omega
theorem xor64 (a b : Nat) (ha : a < 9223372036854775808) (hb : b < 9223372036854775808) : bits .xor .i64 (a : Int) (b : Int) = ((a ^^^ b : Nat) : Int) := by
  have hx : a ^^^ b < 2 ^ 63 := Nat.xor_lt_two_pow (by omega) (by omega)
  show IntKind.i64.wrap ((BitVec.ofInt 64 (a : Int) ^^^ BitVec.ofInt 64 (b : Int)).toNat : Int) = _
  rw [BitVec.toNat_xor, toNat_ofInt64 a ha, toNat_ofInt64 b hb, IntKind.wrap_i64]
  omega
theorem or_mul_pow (m x i : Nat) (hx : x < 2 ^ i) : (m * 2 ^ i) ||| x = m * 2 ^ i + x := by
  rw [Nat.mul_comm, ← Nat.two_pow_add_eq_or_of_lt hx]
theorem or256 (m x : Nat) (hm : m < 1099511627776) (hx : x < 256) : bits .or .i64 ((m : Int) * 256) (x : Int) = (m : Int) * 256 + x := by
  have h3 : (m : Int) * 256 = (((m * 256 : Nat)) : Int) := by omega
  have h4 : (m : Int) * 256 + x = (((m * 256 + x : Nat)) : Int) := by omega
  rw [h4, h3, or64 (m * 256) x (by omega) (by omega)]
  exact congrArg _ (or_mul_pow m x 8 (by omega))
theorem or128_all : ∀ x : Fin 256, bits .or .u8 (x.val : Int) 128 = ((x.val % 128 + 128 : Nat) : Int) := by decide +kernel
theorem or128 (r : Nat) : bits .or .u8 ((r : Int) % 256) 128 = ((r % 128 + 128 : Nat) : Int) := by
  have h := or128_all ⟨r % 256, by omega⟩
  have e1 : (r : Int) % 256 = ((r % 256 : Nat) : Int) := by omega
  have e2 : r % 256 % 128 = r % 128 := by omega
  rw [e1, ← e2]
  exact h
end Go.Proofs.YtlhcobkncceodaaGreatDoor
