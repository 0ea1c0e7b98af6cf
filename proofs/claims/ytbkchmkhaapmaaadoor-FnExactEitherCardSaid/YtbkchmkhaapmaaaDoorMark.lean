/- The contracts of the law's two helpers that write marks into a slice of bytes and look for them: 'markByteS' writes 1, 2, 3 .. (modulo 256) into a row of the call's own, and nothing else; 'heldByteS' finds them. Condition: at most 2^21 bytes. -/
import Derived.Test.YtbkchmkhaapmaaaDoorBase
namespace Go.Proofs.YtbkchmkhaapmaaaDoor
open Go.RowKit

/-- The marks. -/
def marks (n : Nat) : List Nat := (List.range n).map fun i => (i + 1) % 256
theorem marks_length (n : Nat) : (marks n).length = n := by simp [marks]
theorem marks_small (n : Nat) : ∀ x ∈ marks n, x < 256 := by
  intro x hx
  simp only [marks, List.mem_map] at hx
  obtain ⟨i, _, rfl⟩ := hx
  omega
theorem marks_get (n k : Nat) (h : k < n) : (marks n)[k]? = some ((k + 1) % 256) := by simp [marks, h]
def markedTo (xs : List Nat) (k : Nat) : List Nat := marks k ++ xs.drop k
theorem markedTo_zero (xs : List Nat) : markedTo xs 0 = xs := by simp [markedTo, marks]
theorem markedTo_full (xs : List Nat) : markedTo xs xs.length = marks xs.length := by simp [markedTo]
theorem markedTo_step (xs : List Nat) (k : Nat) (h : k < xs.length) : (vb (markedTo xs k)).set k (.int .u8 (((k + 1) % 256 : Nat) : Int)) = vb (markedTo xs (k + 1)) := by
  have : (markedTo xs k).set k ((k + 1) % 256) = markedTo xs (k + 1) := by
    unfold markedTo
    rw [List.set_append_right _ _ (by simp [marks_length]), marks_length, Nat.sub_self, List.drop_eq_getElem_cons h, List.set_cons_zero]
    rw [marks, marks, List.range_succ, List.map_append, List.append_assoc]
    rfl
  rw [← this]
  simp [vb, List.map_set]

def Marked (w : World) (base n : Nat) (A : Option Addr) (c : Nat) (e : Ending) (w' : World) : Prop :=
  e = .returned (.int .i64 (n + 1 : Int)) ∧ w'.ownsRow base 5 1 (.slice A n c) n (vb (marks n)) ∧ w.grownBy w' (Value.slice A n c).ownBlock

set_option maxHeartbeats 400000 in
theorem mark_any (A : Option Addr) (n c base : Nat) (xs : List Nat) (w : World) (ho : w.ownsRow base 5 1 (.slice A n c) n (vb xs)) (hn : n ≤ 2097152) :
    Calls Tryd.prog 54 #[.slice A n c, .int .i64 1] w (Marked w base n A c) := by
  have hl : xs.length = n := by have := ho.1; rw [vb_length] at this; omega
  rcases Nat.eq_zero_or_pos n with h0 | h0
  · subst h0
    obtain rfl : xs = [] := List.eq_nil_of_length_eq_zero hl
    have HO := Lib.hid ho
    clear ho hl
    go_enter Tryd.func54, Tryd.ntmps54
    go_wp2
    refine wp_loop_rounds 1 ?_
    rw [rounds_succ]
    go_wp2
    go_ret
    exact ⟨rfl, HO.out, World.grownBy.refl _ _⟩
  · obtain ⟨g, cap, hv, hbase, hlt⟩ := ho.form h0
    obtain ⟨rfl, -, rfl⟩ : A = some ⟨g, 0, none⟩ ∧ n = n ∧ c = cap := by injection hv with e1 e2 e3; exact ⟨e1, e2, e3⟩
    clear hv
    have HL := Lib.hid hl
    have ho0 : w.ownsRow base 5 1 (.slice (some ⟨g, 0, none⟩) n c) n (vb (markedTo xs 0)) := by rw [markedTo_zero]; exact ho
    clear hl ho
    go_enter Tryd.func54, Tryd.ntmps54
    go_wp2
    go_loopw [1, 5] (fun t i wr => ∃ k : Nat, k ≤ n ∧ i = .int .i64 k ∧ t = .int .i64 (k + 1 : Int) ∧ wr.ownsRow base 5 1 (.slice (some ⟨g, 0, none⟩) n c) n (vb (markedTo xs k)) ∧ w.grownBy wr (some g)) (fun _ i _ => n - (intOf i).toNat)
    case atStart => exact ⟨0, Nat.zero_le _, rfl, rfl, ho0, World.grownBy.refl _ _⟩
    case round =>
      obtain ⟨k, hk, rfl, rfl, hown, hgr⟩ := hrel
      by_cases hlt2 : k < n
      · have hl2 : k < (vb (markedTo xs k)).length := by rw [hown.1]; omega
        have hcell2 : wr.cell? ⟨g, k, none⟩ = some (vb (markedTo xs k))[k] := by rw [hown.cellAt k (by omega), List.getElem?_eq_getElem hl2]
        have hfr := hown.frozenAt k
        have hst := hown.stored k (.int .u8 (((k + 1) % 256 : Nat) : Int))
        rw [markedTo_step xs k (by rw [HL.out]; exact hlt2)] at hst
        have hst1 := Lib.hid hst.1
        have hg2 := grownBy_trans hgr hst.2
        generalize (vb (markedTo xs k))[k] = old at hcell2
        clear hst hown hl2
        go_wp2
        go_roundw
        case rel => exact ⟨k + 1, by omega, by go_num, by go_num, hst1.out, hg2⟩
        case measure => simp [intOf]; omega
      · obtain rfl : k = n := by omega
        go_wp2
        go_ret
        have e := HL.out
        subst e
        rw [markedTo_full] at hown
        exact ⟨rfl, hown, hgr⟩

set_option maxHeartbeats 400000 in
theorem held_any (A : Option Addr) (n c : Nat) (w : World) (hr : Rd w A n (marks n)) (hn : n ≤ 2097152) :
    Calls Tryd.prog 55 #[.slice A n c, .int .i64 1] w fun e w' => e = .returned (.int .i64 (n + 1 : Int)) ∧ w = w' := by
  go_enter Tryd.func55, Tryd.ntmps55
  go_wp2
  go_loop [1, 5] (fun t i => ∃ k : Nat, k ≤ n ∧ i = .int .i64 k ∧ t = .int .i64 (k + 1 : Int)) (fun _ i => n - (intOf i).toNat)
  case atStart => exact ⟨0, Nat.zero_le _, rfl, rfl⟩
  case round =>
    obtain ⟨k, hk, rfl, rfl⟩ := hrel
    by_cases hlt : k < n
    · obtain ⟨b, off, x, rfl, hbw, hx, hxs, hc⟩ := hr.at_ hlt
      obtain rfl : (k + 1) % 256 = x := by have := (marks_get n k hlt).symm.trans hxs.out; injection this
      go_wp2
      go_round
      case rel => exact ⟨k + 1, by omega, by go_num, by go_num⟩
      case measure => simp [intOf]; omega
    · obtain rfl : k = n := by omega
      go_wp2
      go_ret
      exact ⟨rfl, rfl⟩
end Go.Proofs.YtbkchmkhaapmaaaDoor
