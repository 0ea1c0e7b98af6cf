/- Reading a frame, as data: what the model's comparison of two strings and the program's comparison of two numbers have in common (no program; no condition). -/
import Derived.Test.YtmlfhjkogcabiaaFrBytes
import Derived.Test.YtmlfhjkogcabiaaGetFixMath
namespace Go.Proofs.Ytmlfhjkogcabiaa
open Go.RowKit

theorem six (x0 x1 x2 x3 x4 x5 : Nat) (h0 : x0 < 256) (h1 : x1 < 256) (h2 : x2 < 256) (h3 : x3 < 256) (h4 : x4 < 256) (h5 : x5 < 256) :
    fixBytes ([x0, x1, x2, x3, x4, x5].foldl (fun n x => n * 256 + x) 0) 6 = [x0, x1, x2, x3, x4, x5] := by
  simp only [fixBytes, List.range_succ, List.range_zero, List.nil_append, List.map_cons, List.map_nil, fixByte, List.foldl_cons, List.foldl_nil, List.cons_append]
  refine List.cons_eq_cons.2 ⟨by omega, List.cons_eq_cons.2 ⟨by omega, List.cons_eq_cons.2 ⟨by omega, List.cons_eq_cons.2 ⟨by omega, List.cons_eq_cons.2 ⟨by omega, List.cons_eq_cons.2 ⟨by omega, rfl⟩⟩⟩⟩⟩⟩
theorem fix_of_bytes (l : List Nat) (hl : l.length = 6) (hs : ∀ x ∈ l, x < 256) : fixBytes (l.foldl (fun n x => n * 256 + x) 0) 6 = l := by
  match l, hl with
  | [x0, x1, x2, x3, x4, x5], _ =>
    simp only [List.mem_cons, List.not_mem_nil, or_false, forall_eq_or_imp, forall_eq] at hs
    exact six _ _ _ _ _ _ hs.1 hs.2.1 hs.2.2.1 hs.2.2.2.1 hs.2.2.2.2.1 hs.2.2.2.2.2
theorem bytes_of_fix (m : Nat) (hm : m < 281474976710656) : (fixBytes m 6).foldl (fun n x => n * 256 + x) 0 = m := by
  simp only [fixBytes, List.range_succ, List.range_zero, List.nil_append, List.map_cons, List.map_nil, fixByte, List.foldl_cons, List.foldl_nil, List.cons_append]
  omega
section
variable {rs : List Nat}
theorem cut_fix (hs : ∀ x ∈ rs, x < 256) (k : Nat) (hk : k + 6 ≤ rs.length) : (rs.drop k).take 6 = fixBytes (fixNat rs k 6) 6 := by
  have := fix_of_bytes ((rs.drop k).take 6) (by rw [List.length_take, List.length_drop]; omega) (fun x hx => hs x (List.mem_of_mem_drop (List.mem_of_mem_take hx)))
  exact this.symm
theorem fixNat_drop (xs : List Nat) (a k : Nat) : fixNat xs (a + k) 6 = fixNat (xs.drop a) k 6 := by
  unfold fixNat
  rw [List.drop_drop]
theorem fix_iff (hs : ∀ x ∈ rs, x < 256) (k m : Nat) (hk : k + 6 ≤ rs.length) (hm : m < 281474976710656) : fixBytes m 6 = (rs.drop k).take 6 ↔ fixNat rs k 6 = m := by
  constructor
  · intro h
    unfold fixNat
    rw [← h, bytes_of_fix m hm]
  · intro h
    rw [cut_fix hs k hk, h]

/-- The first two parts of a frame are right. -/
def headB (rs : List Nat) : Bool := decide (rs.getD 0 0 = 71 ∧ 1 ≤ rs.getD 1 0 ∧ rs.getD 1 0 ≤ 3 ∧ fixNat rs 2 6 ≤ 60000 ∧ fixNat rs 8 6 = crcV (rs.take 8))
def sizeR (rs : List Nat) : Nat := fixNat rs 2 6
def dataR (rs : List Nat) : List Nat := (rs.drop 20).take (sizeR rs)
theorem headB_iff (h : headB rs = true) : rs.getD 0 0 = 71 ∧ 1 ≤ rs.getD 1 0 ∧ rs.getD 1 0 ≤ 3 ∧ sizeR rs ≤ 60000 ∧ fixNat rs 8 6 = crcV (rs.take 8) := of_decide_eq_true h
/-- A frame, the place behind it, the code. -/
def frR (xs : List Nat) (a : Int) : (Int × List Nat) × Int × Int :=
  if a < 0 ∨ (xs.length : Int) < a then ((0, []), 0, 1)
  else if (xs.drop a.toNat).length < 14 then ((0, []), 0, 2)
  else if headB (xs.drop a.toNat) = false then ((0, []), 0, 3)
  else if (xs.drop a.toNat).length < 20 + sizeR (xs.drop a.toNat) then ((0, []), 0, 4)
  else if fixNat (xs.drop a.toNat) 14 6 ≠ crcV (dataR (xs.drop a.toNat)) then ((0, []), 0, 5)
  else ((((xs.drop a.toNat).getD 1 0 : Nat), dataR (xs.drop a.toNat)), a + 20 + sizeR (xs.drop a.toNat), 0)
theorem take_two (hl : 2 ≤ rs.length) : rs.take 2 = [rs.getD 0 0, rs.getD 1 0] := by
  match rs, hl with
  | x :: y :: r, _ => rfl
theorem data_small (hs : ∀ x ∈ rs, x < 256) : ∀ x ∈ dataR rs, x < 256 := fun x hx => hs x (List.mem_of_mem_drop (List.mem_of_mem_take hx))
theorem data_len (hl : 20 + sizeR rs ≤ rs.length) : (dataR rs).length = sizeR rs := by
  unfold dataR
  rw [List.length_take, List.length_drop]
  omega
theorem whole_cut (k m : Nat) : rs.take (k + m) = rs.take k ++ (rs.drop k).take m := List.take_add
/-- The encoding of what was read is what was read just where the second checksum is right. -/
theorem frB_iff (hs : ∀ x ∈ rs, x < 256) (hh : headB rs = true) (hl : 20 + sizeR rs ≤ rs.length) :
    frB ((rs.getD 1 0 : Nat) : Int) (dataR rs) = rs.take (20 + sizeR rs) ↔ fixNat rs 14 6 = crcV (dataR rs) := by
  obtain ⟨h0, h1, h2, h3, h4⟩ := headB_iff hh
  have hdl := data_len hl
  have e2 : rs.take 2 = [71, rs.getD 1 0] := by rw [take_two (by omega), h0]
  have e8 : rs.take 8 = [71, rs.getD 1 0] ++ fixBytes (sizeR rs) 6 := by
    rw [whole_cut 2 6, e2, cut_fix hs 2 (by omega)]
    rfl
  have e14 : rs.take 14 = rs.take 8 ++ fixBytes (crcV (rs.take 8)) 6 := by rw [whole_cut 8 6, cut_fix hs 8 (by omega), h4]
  have e20 : rs.take 20 = rs.take 14 ++ (rs.drop 14).take 6 := whole_cut 14 6
  have eall : rs.take (20 + sizeR rs) = rs.take 20 ++ dataR rs := whole_cut 20 (sizeR rs)
  have hok : frOk ((rs.getD 1 0 : Nat) : Int) (dataR rs).length = true := by
    unfold frOk
    rw [hdl]
    simp only [Bool.and_eq_true, decide_eq_true_eq]
    omega
  have hcr : crcV (dataR rs) < 281474976710656 := by have := crcV_lt (dataR rs) (data_small hs); omega
  unfold frB
  rw [if_pos hok, hdl, Int.toNat_natCast, eall, e20, e14, e8, List.append_left_inj, List.append_right_inj]
  exact fix_iff hs 14 _ (by omega) hcr
theorem frR_small (xs : List Nat) (a : Int) (hs : ∀ x ∈ xs, x < 256) : (∀ x ∈ (frR xs a).1.2, x < 256) ∧ (frR xs a).1.2.length ≤ 60000 := by
  have hz : (∀ x ∈ ([] : List Nat), x < 256) ∧ ([] : List Nat).length ≤ 60000 := by simp
  unfold frR
  split
  · exact hz
  · split
    · exact hz
    · split
      · exact hz
      · split
        · exact hz
        · split
          · exact hz
          · rename_i _ _ h3 h4 _
            refine ⟨data_small (fun x hx => hs x (List.mem_of_mem_drop hx)), ?_⟩
            have hh : headB (xs.drop a.toNat) = true := by
              cases hb : headB (xs.drop a.toNat) with
              | true => rfl
              | false => exact absurd hb h3
            have := (headB_iff hh).2.2.2.1
            show (dataR (xs.drop a.toNat)).length ≤ 60000
            rw [data_len (by omega)]
            exact this
end
end Go.Proofs.Ytmlfhjkogcabiaa
