/- Plain mathematics: a number is read back from each of its three encodings, behind whatever bytes. -/
import Derived.Test.YtmjpckgagikdoaaDoorGetZigMath
import Derived.Test.YtmjpckgagikdoaaDoorZigMath
import Derived.Test.YtmjpckgagikdoaaDoorPutFixMath
import Derived.Test.YtmjpckgagikdoaaDoorGetFixMath
namespace Go.Proofs.YtmjpckgagikdoaaDoor

theorem val_digits (f v : Nat) (h : v < 128 ^ (f + 1)) : val (digits f v) = v := by
  induction f generalizing v with
  | zero => simp [digits, val]; omega
  | succ f ih =>
    by_cases hv : v < 128
    · rw [digits_small _ _ hv]; simp [val]; omega
    · rw [digits_big _ _ (by omega), val, ih (v / 128) (by rw [Nat.pow_succ] at h; omega)]
      omega
theorem shape_digits (f v : Nat) (h : v < 128 ^ (f + 1)) : shape (digits f v) := by
  induction f generalizing v with
  | zero => simp [digits, shape]; omega
  | succ f ih =>
    by_cases hv : v < 128
    · rw [digits_small _ _ hv]; exact hv
    · rw [digits_big _ _ (by omega)]
      have := ih (v / 128) (by rw [Nat.pow_succ] at h; omega)
      cases hd : digits f (v / 128) with
      | nil => rw [hd] at this; cases this
      | cons e r => rw [hd] at this; exact ⟨by omega, by omega, this⟩
theorem scan_shape (l : List Nat) (h : shape l) : scan l + 1 = l.length := by
  induction l with
  | nil => cases h
  | cons d r ih =>
    cases r with
    | nil => simp [shape] at h; simp [scan]; omega
    | cons e r =>
      obtain ⟨h1, h2, h3⟩ := h
      have := ih h3
      rw [scan, if_pos h1]
      simp only [List.length_cons] at this ⊢
      omega
theorem gvOk_digits (v : Nat) (h : v ≤ 281474976710655) : gvOk (digits 6 v) = true := by
  have hs := shape_digits 6 v (by omega)
  have hsc := scan_shape _ hs
  have hl := digits_length 6 v
  have ht : (digits 6 v).take (scan (digits 6 v) + 1) = digits 6 v := by rw [hsc]; exact List.take_length
  have hv := val_digits 6 v (by omega)
  unfold gvOk
  rw [ht, hv, (digits_val _ 6 hs hl).1 (by rw [hv]), decide_eq_true ⟨by omega, by omega, h⟩]
  rfl
theorem read_var (ys : List Nat) (v : Nat) (h : v ≤ 281474976710655) : gvVal (ys ++ digits 6 v) (ys.length : Int) (ys ++ digits 6 v).length = .tuple #[.int .i64 (v : Int), .int .i64 ((ys ++ digits 6 v).length : Nat), .bool true] := by
  have hs := shape_digits 6 v (by omega)
  have hsc := scan_shape _ hs
  have hd : (ys ++ digits 6 v).drop ys.length = digits 6 v := by simp
  have hlt : ys.length < (ys ++ digits 6 v).length := by rw [List.length_append]; omega
  have hg : gv (ys ++ digits 6 v) (ys.length : Int) (ys ++ digits 6 v).length = true := by rw [gv_in _ _ _ hlt, hd]; exact gvOk_digits v h
  have ht : (digits 6 v).take (scan (digits 6 v) + 1) = digits 6 v := by rw [hsc]; exact List.take_length
  unfold gvVal gvN gvE
  rw [hg, if_pos rfl, if_pos rfl, Int.toNat_natCast, hd, ht, val_digits 6 v (by omega)]
  have e : (ys.length : Int) + (scan (digits 6 v) : Int) + 1 = (((ys ++ digits 6 v).length : Nat) : Int) := by rw [List.length_append]; omega
  rw [e]
theorem unzig_zig (a : Int) : unzig (zig a) = a := by
  unfold zig
  by_cases h : a < 0
  · rw [if_pos h]; unfold unzig; rw [if_pos (by omega)]; omega
  · rw [if_neg h]; unfold unzig; rw [if_neg (by omega)]; omega
theorem read_zig (ys : List Nat) (a : Int) (h : zigOk a = true) : gzVal (putZig ys a) (ys.length : Int) (putZig ys a).length = .tuple #[.int .i64 a, .int .i64 ((putZig ys a).length : Nat), .bool true] := by
  have hn := zig_num a h
  have hb : 0 ≤ zig a ∧ zig a ≤ 281474976710655 := by simpa [numOk] using hn
  obtain ⟨m, hm⟩ : ∃ m : Nat, zig a = m := ⟨(zig a).toNat, by omega⟩
  have hp : putZig ys a = ys ++ digits 6 m := by unfold putZig putVar; rw [h, if_pos rfl, hn, if_pos rfl, hm, Int.toNat_natCast]
  have hr := read_var ys m (by omega)
  rw [hp]
  have hv : gvVal (ys ++ digits 6 m) (ys.length : Int) (ys ++ digits 6 m).length = .tuple #[.int .i64 (gvN (ys ++ digits 6 m) ys.length (ys ++ digits 6 m).length), .int .i64 (gvE (ys ++ digits 6 m) ys.length (ys ++ digits 6 m).length), .bool (gv (ys ++ digits 6 m) ys.length (ys ++ digits 6 m).length)] := rfl
  rw [hv] at hr
  simp only [Value.tuple.injEq, Array.mk.injEq, List.cons.injEq, Value.int.injEq, Value.bool.injEq, true_and, and_true] at hr
  obtain ⟨h1, h2, h3⟩ := hr
  unfold gzVal
  rw [h1, h2, h3, if_pos rfl, ← hm, unzig_zig]
theorem fixNat_bytes (ys : List Nat) (v k : Nat) (hk : k ≤ 6) (hv : v < 256 ^ 6) : fixNat (ys ++ fixBytes v 6) ys.length k = v / 256 ^ (6 - k) := by
  induction k with
  | zero => rw [fixNat_zero, Nat.div_eq_of_lt hv]
  | succ k ih =>
    have hx : (ys ++ fixBytes v 6)[ys.length + k]? = some (fixByte v k) := by
      rw [List.getElem?_append_right (by omega), Nat.add_sub_cancel_left]
      rw [fixBytes, List.getElem?_map, List.getElem?_range (by omega)]
      rfl
    rw [fixNat_succ _ _ _ _ hx, ih (by omega)]
    unfold fixByte
    have e : 6 - k = (5 - k) + 1 := by omega
    have e2 : 6 - (k + 1) = 5 - k := by omega
    rw [e2, e, Nat.pow_succ, ← Nat.div_div_eq_div_mul]
    omega
theorem read_fix (ys : List Nat) (v : Nat) (h : v ≤ 281474976710655) : fixVal (ys ++ fixBytes v 6) (ys.length : Int) (ys ++ fixBytes v 6).length = .tuple #[.int .i64 (v : Int), .bool true] := by
  have hl : (ys ++ fixBytes v 6).length = ys.length + 6 := by rw [List.length_append, fixBytes_length]
  have ho : fixOk (ys.length : Int) (ys ++ fixBytes v 6).length = true := by unfold fixOk; rw [hl]; exact decide_eq_true ⟨by omega, by omega⟩
  unfold fixVal
  rw [ho, if_pos rfl, Int.toNat_natCast, fixNat_bytes ys v 6 (by omega) (by omega)]
  simp
end Go.Proofs.YtmjpckgagikdoaaDoor
