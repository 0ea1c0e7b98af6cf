/- A slice of bytes as a string: what the conversion gives, and when two such strings are the same. -/
import Derived.Test.YtmbabbapcjphgaaRows
import Derived.Test.YtmbabbapcjphgaaWords
import Derived.Laws.BytesArg
import Derived.Shelf.Bytes.SlSmallAll
import Derived.Lib.SlBytesRow
namespace Go.Proofs.Ytmbabbapcjphgaa
open Go.RowKit

def strB (xs : List Nat) : ByteArray := strOfNums (xs.map fun n : Nat => (n : Int))
theorem strB_toList (xs : List Nat) : (strB xs).toList = xs.map UInt8.ofNat := by
  rw [Go.ByteArray.toList_eq]
  unfold strB
  rw [strOfNums_data, List.map_map]
  rfl
theorem strB_inj (xs ys : List Nat) (hx : ∀ x ∈ xs, x < 256) (hy : ∀ x ∈ ys, x < 256) (h : (strB xs).toList = (strB ys).toList) : xs = ys := by
  rw [strB_toList, strB_toList] at h
  have e : ∀ l : List Nat, (∀ x ∈ l, x < 256) → (l.map UInt8.ofNat).map UInt8.toNat = l := by
    intro l hl
    rw [List.map_map]
    conv => rhs; rw [← List.map_id l]
    refine List.map_congr_left fun x hx => ?_
    have := hl x hx
    simp [Nat.mod_eq_of_lt this]
  rw [← e xs hx, ← e ys hy, h]
theorem strB_beq (xs ys : List Nat) (hx : ∀ x ∈ xs, x < 256) (hy : ∀ x ∈ ys, x < 256) : ((strB xs).toList == (strB ys).toList) = decide (xs = ys) := by
  by_cases h : xs = ys
  · subst h; simp
  · rw [decide_eq_false h, beq_eq_false_iff_ne]
    exact fun hc => h (strB_inj xs ys hx hy hc)

theorem conv_rd {w : World} {A : Option Addr} {n : Nat} {xs : List Nat} (c : Nat) (h : Rd w A n xs) : (convert 55 9 (.slice A n c)).run Try.prog w = .ok (.string (strB xs)) w := by
  rcases Nat.eq_zero_or_pos n with h0 | h0
  · subst h0
    obtain rfl : xs = [] := List.eq_nil_of_length_eq_zero h.len
    exact run_convert_bytes_zero w 55 5 Try.underlying55 Try.underlying5 A c 9 Try.underlying9
  · obtain ⟨b, off, rfl, hb, hc⟩ := h.lies h0
    refine run_convert_bytes_arg w 55 5 Try.underlying55 Try.underlying5 b off n c _ (by simp [h.len]) (fun i hi => ?_) 9 Try.underlying9
    have hl : i < xs.length := by rw [h.len]; exact hi
    rw [hc i xs[i] (List.getElem?_eq_getElem hl)]
    simp [List.getElem?_eq_getElem hl]
theorem byteSize (w : World) : (Go.sizeOf 5).run Try.prog w = .ok 1 w := by kernel_rfl
/-- 'b[lo:hi]' of a slice of bytes, lo below hi. -/
theorem window (w : World) (b off len cap lo m : Nat) (hi : Int) (he : hi = (lo : Int) + m) (hm : 0 < m) (hc : lo + m ≤ cap) :
    (Instr.slice 55 (.slice (some ⟨b, off, none⟩) len cap) (some (.int .i64 (lo : Int))) (some (.int .i64 hi)) none).run Try.prog w = .ok (.slice (some ⟨b, off + lo, none⟩) m (cap - lo)) w := by
  have h := Lib.run_slice_window (P := Try.prog) w 55 5 Try.underlying55 byteSize b off len cap lo (lo + m) (by omega) hc
  rw [Nat.add_sub_cancel_left, Int.natCast_add] at h
  rw [he]
  exact h
theorem Rd.cut {w : World} {b off n p m : Nat} {xs : List Nat} (h : Rd w (some ⟨b, off, none⟩) n xs) (hp : p + m ≤ n) : Rd w (some ⟨b, off + p, none⟩) m ((xs.drop p).take m) := by
  refine ⟨by rw [List.length_take, List.length_drop, h.len]; omega, fun x hx => h.small x (List.mem_of_mem_drop (List.mem_of_mem_take hx)), fun hm => ?_⟩
  obtain ⟨b', off', e, hb, hc⟩ := h.lies (by omega)
  injection e with e
  injection e with e1 e2
  subst e1 e2
  refine ⟨b, off + p, rfl, hb, fun j x hx => ?_⟩
  rw [List.getElem?_take] at hx
  split at hx
  · rw [List.getElem?_drop] at hx
    rw [Nat.add_assoc]
    exact hc _ x hx
  · cases hx
/-- A string of one byte, out of a new slice of it. -/
theorem conv_one (W : World) (g x : Nat) (hx : x < 256) (hc : W.cell? ⟨g, 0, none⟩ = some (.int .u8 (x : Int))) :
    (convert 55 9 (.slice (some ⟨g, 0, none⟩) 1 1)).run Try.prog W = .ok (.string ⟨#[UInt8.ofNat x]⟩) W := by
  have h := conv_rd (xs := [x]) 1 (A := some ⟨g, 0, none⟩) (n := 1) (w := W) ⟨rfl, by simpa using hx, fun _ => ⟨g, 0, rfl, World.block_lt_of_cell? W _ hc, fun j y hj => by
    match j, hj with
    | 0, hj => simp at hj; subst hj; exact hc⟩⟩
  exact h
end Go.Proofs.Ytmbabbapcjphgaa
