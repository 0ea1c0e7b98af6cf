/- Slices of records cut short (plain lemmas over the model; no condition). -/
import Derived.Test.YtbfdhlpncblahaaRecW
import Derived.WalkKit
namespace Go.Proofs.Ytbfdhlpncblahaa
open Go.RowKit

/-! ### slices of records cut short -/
theorem recElem : Try.prog.underlying 63 = some (.slice (Try.prog.elem 63)) := by simp [Program.elem, Try.underlying63]
theorem recElem' : Try.prog.elem 63 = 82 := by simp [Program.elem, Try.underlying63]
theorem recSize (w : World) : (Go.sizeOf 82).run Try.prog w = .ok 3 w := by kernel_rfl
theorem rec_add (b off k : Nat) : (⟨b, off, none⟩ : Addr).add k = ⟨b, off + k, none⟩ := by unfold Addr.add; split <;> simp_all
theorem rec_from {P : Option Addr} {n c k : Nat} {es : List GE} {w : World} (hr : SlG w P n es) (hk : k ≤ n) (hc : n ≤ c) :
    ∃ P', (∀ W, (Instr.slice 63 (.slice P n c) (some (.int .i64 (k : Int))) none none).run Try.prog W = .ok (.slice P' (n - k) (c - k)) W) ∧ SlG w P' (n - k) (es.drop k) := by
  refine ⟨if c = k then P else P.map (·.add (k * 3)), fun W => ?_, ?_⟩
  · rw [run_slice_l W _ _ _ _ recElem .i64 (k : Int) (by omega) (by omega), recElem', recSize, Int.toNat_natCast]
    rfl
  · refine ⟨by rw [List.length_drop, hr.len], by rw [flat_len GE.cells 3 GE.cells_len, List.length_drop, hr.len], fun hn => ?_⟩
    obtain ⟨b, off, rfl, hb, hcell⟩ := hr.row.lies (by omega)
    rw [if_neg (by omega)]
    refine ⟨b, off + k * 3, by simp [rec_add], hb, fun j u hu => ?_⟩
    have e := hcell (k * 3 + j) u
    rw [Nat.add_assoc]
    apply e
    have h1 := List.flatMap_append (f := GE.cells) (xs := es.take k) (ys := es.drop k)
    rw [List.take_append_drop] at h1
    rw [h1, List.getElem?_append_right (by rw [flat_len GE.cells 3 GE.cells_len, List.length_take, hr.len]; omega), flat_len GE.cells 3 GE.cells_len, List.length_take, hr.len, Nat.min_eq_left hk, Nat.add_sub_cancel_left]
    exact hu
theorem rec_most (g n c k : Nat) (hk : k ≤ n) (hc : n ≤ c) (W : World) :
    (Instr.slice 63 (.slice (some ⟨g, 0, none⟩) n c) none (some (.int .i64 (k : Int))) none).run Try.prog W = .ok (.slice (some ⟨g, 0, none⟩) k c) W := by
  rw [run_slice_h W _ _ _ _ recElem .i64 (k : Int) (by omega) (by omega), recElem', recSize, Int.toNat_natCast]
  simp [sliced, rec_add]
theorem own_most {w : World} {lo e g n c k : Nat} {es : List GE} (h : w.ownsRow lo e 3 (.slice (some ⟨g, 0, none⟩) n c) n (es.flatMap GE.cells)) (hl : es.length = n) (hk : k ≤ n) :
    w.ownsRow lo e 3 (.slice (some ⟨g, 0, none⟩) k c) k ((es.take k).flatMap GE.cells) := by
  obtain ⟨h1, h2⟩ := h
  rcases h2 with ⟨h2, _⟩ | ⟨g', cap, cur, hv, hb, hg, r1, r2, r3, r4⟩
  · cases h2
  · injection hv with e1 _ e3
    injection e1 with e1
    injection e1 with e1
    subst e1 e3
    refine ⟨by rw [flat_len GE.cells 3 GE.cells_len, List.length_take, hl]; omega, .inr ⟨g, c, cur, rfl, hb, hg, by omega, r2, r3, ?_⟩⟩
    have h4 := congrArg (List.take (k * 3)) r4
    rw [List.take_take, Nat.min_eq_left (by omega)] at h4
    rw [h4]
    have h5 := List.flatMap_append (f := GE.cells) (xs := es.take k) (ys := es.drop k)
    rw [List.take_append_drop] at h5
    rw [h5, List.take_left' (by rw [flat_len GE.cells 3 GE.cells_len, List.length_take, hl]; omega)]
theorem own_capR {w : World} {lo e size g n c : Nat} {xs : List Value} (h : w.ownsRow lo e size (.slice (some ⟨g, 0, none⟩) n c) n xs) : n ≤ c := by
  rcases h.2 with ⟨h2, _⟩ | ⟨g', cap, cur, hv, hb, hg, r1, r2, r3, r4⟩
  · cases h2
  · injection hv with _ _ e3
    omega

theorem flat_drop (es : List GE) (k : Nat) : (es.drop k).flatMap GE.cells = (es.flatMap GE.cells).drop (k * 3) := by
  have h1 := List.flatMap_append (f := GE.cells) (xs := es.take k) (ys := es.drop k)
  rw [List.take_append_drop] at h1
  by_cases hk : k ≤ es.length
  · rw [h1, List.drop_left' (by rw [flat_len GE.cells 3 GE.cells_len, List.length_take]; omega)]
  · rw [(List.drop_eq_nil_of_le (by omega) : es.drop k = []), (List.drop_eq_nil_of_le (by rw [flat_len GE.cells 3 GE.cells_len]; omega) : (es.flatMap GE.cells).drop (k * 3) = [])]
    rfl
theorem flat_take (es : List GE) (k : Nat) : (es.take k).flatMap GE.cells = (es.flatMap GE.cells).take (k * 3) := by
  have h1 := List.flatMap_append (f := GE.cells) (xs := es.take k) (ys := es.drop k)
  rw [List.take_append_drop] at h1
  by_cases hk : k ≤ es.length
  · rw [h1, List.take_left' (by rw [flat_len GE.cells 3 GE.cells_len, List.length_take]; omega)]
  · rw [List.take_of_length_le (l := es) (by omega), List.take_of_length_le (l := es.flatMap GE.cells) (by rw [flat_len GE.cells 3 GE.cells_len]; omega)]
/-- A piece of a slice of records reads. -/
theorem SlG.piece {w : World} {P : Option Addr} {n l m : Nat} {es : List GE} (hr : SlG w P n es) (hk : l + m ≤ n) (P' : Option Addr) (hP : ∀ b off, P = some ⟨b, off, none⟩ → 0 < m → P' = some ⟨b, off + l * 3, none⟩) : SlG w P' m ((es.drop l).take m) := by
  have hlen : ((es.drop l).take m).length = m := by rw [List.length_take, List.length_drop, hr.len]; omega
  refine ⟨hlen, by rw [flat_len GE.cells 3 GE.cells_len, hlen], fun hn => ?_⟩
  obtain ⟨b, off, rfl, hb, hcell⟩ := hr.row.lies (by omega)
  refine ⟨b, off + l * 3, hP b off rfl hn, hb, fun j u hu => ?_⟩
  rw [flat_take, flat_drop] at hu
  rw [List.getElem?_take] at hu
  split at hu
  · rw [List.getElem?_drop] at hu
    rw [Nat.add_assoc]
    exact hcell _ u hu
  · cases hu
theorem rec_mid {P : Option Addr} {n c l m : Nat} {es : List GE} {w : World} (hi : Int) (hr : SlG w P n es) (he : hi = (l : Int) + m) (hk : l + m ≤ n) (hc : n ≤ c) :
    ∃ P', (∀ W, (Instr.slice 63 (.slice P n c) (some (.int .i64 (l : Int))) (some (.int .i64 hi)) none).run Try.prog W = .ok (.slice P' m (c - l)) W) ∧ SlG w P' m ((es.drop l).take m) := by
  refine ⟨if c = l then P else P.map (·.add (l * 3)), fun W => ?_, hr.piece hk _ (fun b off hb hm => ?_)⟩
  · rw [run_slice_lh W _ _ _ _ recElem .i64 .i64 (l : Int) hi (by omega) (by omega) (by omega), recElem', recSize, Int.toNat_natCast]
    have e : hi.toNat = l + m := by omega
    rw [e]
    show Result.ok (sliced P l (l + m) c 3) W = _
    unfold sliced
    rw [Nat.add_sub_cancel_left]
  · rw [if_neg (by omega), hb]
    simp [rec_add]
end Go.Proofs.Ytbfdhlpncblahaa
