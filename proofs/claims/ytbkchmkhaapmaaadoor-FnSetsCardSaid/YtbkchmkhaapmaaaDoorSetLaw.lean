/- What the law on sets asks, as data: a vertex put in and taken out again (no program; no condition). -/
import Derived.Test.YtbkchmkhaapmaaaDoorSetDig
import Derived.Test.YtbkchmkhaapmaaaDoorCrcTurn
namespace Go.Proofs.YtbkchmkhaapmaaaDoor
open Go.RowKit
set_option linter.unusedVariables false

/-- A drawn set with one of its vertices. -/
structure SV (N v : Nat) (ys : List Nat) : Prop where
  ok : setB (N : Int) ys = true
  sm : ∀ x ∈ ys, x < 256
  v : v < N
section
variable {N v : Nat} {ys : List Nat}
theorem SV.dim (h : SV N v ys) : N ≤ 150 ∧ ys.length = bytesN N := by
  have := setB_dim h.ok
  rw [Int.toNat_natCast] at this
  exact ⟨by omega, this.2.2⟩
theorem SV.place (h : SV N v ys) : v / 8 < ys.length := by rw [h.dim.2]; exact lt_bytes h.v
theorem SV.with_ (h : SV N v ys) : withN (N : Int) ys = (N : Int) ∧ withX (N : Int) ys (v : Int) = addV ys v := by
  have hv := h.v
  unfold withN withX
  rw [h.ok, if_pos rfl, if_pos rfl, if_pos ⟨by omega, by omega⟩, Int.toNat_natCast]
  exact ⟨rfl, rfl⟩
theorem SV.aok (h : SV N v ys) : setB (N : Int) (addV ys v) = true := setB_add h.ok (by rw [Int.toNat_natCast]; exact h.v)
theorem SV.asm (h : SV N v ys) : ∀ x ∈ addV ys v, x < 256 := addV_small h.sm v
theorem SV.wipe (h : SV N v ys) : withN (N : Int) (addV ys v) = (N : Int) ∧ wipeX (N : Int) (addV ys v) (v : Int) = delV (addV ys v) v := by
  have hv := h.v
  unfold withN wipeX
  rw [h.aok, if_pos rfl, if_pos rfl, if_pos ⟨by omega, by omega⟩, Int.toNat_natCast]
  exact ⟨rfl, rfl⟩
theorem SV.bok (h : SV N v ys) : setB (N : Int) (delV (addV ys v) v) = true := setB_del h.aok (by rw [Int.toNat_natCast]; exact h.v)
theorem SV.bsm (h : SV N v ys) : ∀ x ∈ delV (addV ys v) v, x < 256 := delV_small h.asm v
theorem has_of {N u : Nat} {xs : List Nat} (h : setB (N : Int) xs = true) (hu : u < N) : hasB (N : Int) xs (u : Int) = bitN xs u := by
  unfold hasB
  rw [h, decide_eq_true (show (0 : Int) ≤ (u : Int) by omega), decide_eq_true (show (u : Int) < (N : Int) by omega), Int.toNat_natCast]
  rfl
theorem SV.abit (h : SV N v ys) (u : Nat) : bitN (addV ys v) u = (decide (u = v) || bitN ys u) := bit_addV h.place u
theorem SV.bbit (h : SV N v ys) (u : Nat) : bitN (delV (addV ys v) v) u = (!decide (u = v) && bitN ys u) := by
  rw [bit_delV (by rw [addV_len]; exact h.place), h.abit]
  by_cases e : u = v <;> simp [e]
theorem SV.either (h : SV N v ys) : eitherB (N : Int) (N : Int) (addV ys v) (delV (addV ys v) v) = true ∧ eitherN (N : Int) (N : Int) (addV ys v) (delV (addV ys v) v) = (N : Int) ∧ eitherX (N : Int) (N : Int) (addV ys v) (delV (addV ys v) v) = addV ys v := by
  have e1 : eitherB (N : Int) (N : Int) (addV ys v) (delV (addV ys v) v) = true := by unfold eitherB; rw [h.aok, h.bok]; simp
  have hl : (addV ys v).length = (delV (addV ys v) v).length := (delV_len _ _).symm
  refine ⟨e1, by unfold eitherN; rw [e1, if_pos rfl], ?_⟩
  unfold eitherX
  rw [e1, if_pos rfl]
  refine bits_ext (orX_len hl) (orX_small h.asm h.bsm) h.asm fun u => ?_
  rw [bit_orX hl, h.abit, h.bbit]
  by_cases e : u = v <;> simp [e]
theorem SV.parts (h : SV N v ys) : digB (N : Int) (addV ys v) ≠ digB (N : Int) (delV (addV ys v) v) := by
  unfold digB
  rw [h.aok, h.bok, if_pos rfl, if_pos rfl]
  intro e
  have e2 : crcV (putVar [] (N : Int) ++ addV ys v) = crcV (putVar [] (N : Int) ++ delV (addV ys v) v) := by omega
  have hp : v / 8 < (addV ys v).length := by rw [addV_len]; exact h.place
  have hx := List.getElem?_eq_getElem hp
  have hbt : (addV ys v)[v / 8].testBit (v % 8) = true := by
    have h9 := h.abit v
    unfold bitN at h9
    rw [List.getD_eq_getElem?_getD, hx] at h9
    simpa using h9
  have hlt : (addV ys v)[v / 8] < 256 := h.asm _ (List.getElem_mem hp)
  have hd : delV (addV ys v) v = (addV ys v).set (v / 8) (offN ((addV ys v)[v / 8]) (v % 8)) := by
    unfold delV
    rw [List.getD_eq_getElem?_getD, hx]
    rfl
  have hs : putVar [] (N : Int) ++ delV (addV ys v) v = (putVar [] (N : Int) ++ addV ys v).set ((putVar [] (N : Int)).length + v / 8) (offN ((addV ys v)[v / 8]) (v % 8)) := by
    rw [hd, List.set_append_right _ _ (by omega), Nat.add_sub_cancel_left]
  rw [hs] at e2
  have h3 := crcV_one (l := putVar [] (N : Int) ++ addV ys v) (j := (putVar [] (N : Int)).length + v / 8) (x := (addV ys v)[v / 8]) (fun x hx => by
    rcases List.mem_append.1 hx with h1 | h1
    · exact putVar_small [] _ (by simp) x h1
    · exact h.asm x h1) (by rw [List.getElem?_append_right (by omega), Nat.add_sub_cancel_left]; exact hx) (off_lt hlt) e2.symm
  have h4 := on_yes hlt (by omega : v % 8 < 8) hbt
  have h5 := (pow8 (k := v % 8) (by omega)).2
  omega
theorem SV.more (h : SV N v ys) : (memsB (N : Int) ys).length ≤ (memsB (N : Int) (addV ys v)).length := by
  unfold memsB
  rw [h.ok, h.aok, if_pos rfl, if_pos rfl, Int.toNat_natCast]
  unfold memsR
  rw [List.length_map, List.length_map, ← List.countP_eq_length_filter, ← List.countP_eq_length_filter]
  refine List.countP_mono_left fun u _ hu => ?_
  rw [h.abit, hu, Bool.or_true]
/-- Each that is listed is a member. -/
theorem SV.listed (h : SV N v ys) {k : Nat} {z : Int} (hz : (memsB (N : Int) ys)[k]? = some z) : ∃ u : Nat, z = (u : Int) ∧ u < N ∧ bitN ys u = true := by
  unfold memsB at hz
  rw [h.ok, if_pos rfl, Int.toNat_natCast, memsR_eq, List.getElem?_map] at hz
  obtain ⟨u, hu, rfl⟩ := Option.map_eq_some_iff.1 hz
  have := memsN_lt (List.mem_of_getElem? hu)
  exact ⟨u, rfl, this.1, this.2⟩
end
end Go.Proofs.YtbkchmkhaapmaaaDoor
