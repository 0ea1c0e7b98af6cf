/- Plain mathematics of disks: what is visible after the first operations, and in the end; the answers of the functions on disks, as data (no program; no condition). -/
import Derived.Test.YtfcomnpoehpgiaaWeight
namespace Go.Proofs.Ytfcomnpoehpgiaa
open Go.RowKit

/-- What is visible: nothing where the disk is not valid. -/
def DD.seen (r : DD) : List FileD := (okD r).getD []
/-- What is visible after the first k operations. -/
def DD.after (r : DD) (k : Nat) : List FileD := (r.ops.take k).foldl makeF r.fs

section
variable {r : DD}
theorem DD.ok_seen (h : r.ok = true) : okD r = some r.seen := by
  unfold DD.ok at h
  unfold DD.seen
  cases hk : okD r with
  | none => rw [hk] at h; cases h
  | some l => rfl
theorem DD.no_seen (h : r.ok = false) : okD r = none ∧ r.seen = [] := by
  unfold DD.ok at h
  unfold DD.seen
  cases hk : okD r with
  | none => exact ⟨rfl, rfl⟩
  | some l => rw [hk] at h; cases h
theorem DD.seen_after (h : r.ok = true) : r.seen = r.after r.ops.length := by
  obtain ⟨_, _, _, hv⟩ := okD_some (DD.ok_seen h)
  have := visF_seen hv
  unfold DD.after
  rw [List.take_length]
  exact this
theorem DD.ok_lim (h : r.ok = true) : 0 ≤ r.room ∧ r.room ≤ 200000 ∧ -1 ≤ r.fuse ∧ r.fuse ≤ 2000 ∧ r.fs.length ≤ 12 ∧ r.ops.length ≤ 60 := limB_iff (okD_some (DD.ok_seen h)).1
theorem DD.after_good (h : r.ok = true) (k : Nat) : (r.after k).length ≤ 12 ∧ (totF (r.after k) : Int) ≤ r.room := by
  obtain ⟨h1, h2, h3, hv⟩ := okD_some (DD.ok_seen h)
  have hl := limB_iff h1
  have := visF_prefix k hv hl.2.2.2.2.1 h3
  exact ⟨this.1, this.2.1⟩
theorem DD.after_next (h : r.ok = true) {k : Nat} {o : OpD} (hk : r.ops[k]? = some o) : opOkF o = true ∧ fitsF (r.after k) o = true ∧ r.after (k + 1) = makeF (r.after k) o := by
  obtain ⟨h1, h2, h3, hv⟩ := okD_some (DD.ok_seen h)
  have hl := limB_iff h1
  have hp := visF_prefix k hv hl.2.2.2.2.1 h3
  have hn := visF_next hp.2.2 (drop_at hk)
  refine ⟨hn.1, hn.2.1, ?_⟩
  unfold DD.after
  rw [take_step r.ops k o hk, List.foldl_append]
  rfl
theorem DD.after_zero : r.after 0 = r.fs := rfl
theorem DD.seen_good (h : r.ok = true) : r.seen.length ≤ 12 ∧ (totF r.seen : Int) ≤ r.room := by
  rw [DD.seen_after h]
  exact DD.after_good h _
end
end Go.Proofs.Ytfcomnpoehpgiaa
