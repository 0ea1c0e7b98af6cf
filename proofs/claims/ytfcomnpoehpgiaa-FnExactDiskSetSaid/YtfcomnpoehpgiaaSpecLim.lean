/- The model's function that asks whether a disk is valid, at a disk beyond the limits. -/
import Derived.Test.YtfcomnpoehpgiaaSpecMake
import Derived.Test.YtfcomnpoehpgiaaDiskValid
namespace Go.Proofs.Ytfcomnpoehpgiaa
open Go.RowKit

/-- What the law has measured of a disk. -/
structure Modest (n m : Nat) (es : List Ent) (os : List OpE) : Prop where
  fl : n ≤ 1048576
  ol : m ≤ 1048576
  fe : ∀ e ∈ es, e.nm.size ≤ 1048576 ∧ e.d.n ≤ 1048576
  ft : totE es ≤ 1048576
  oe : ∀ o ∈ os, o.nm.size ≤ 1048576 ∧ o.to.size ≤ 1048576 ∧ o.d.n ≤ 1048576

def ddOf (room fuse : Int) (es : List Ent) (os : List OpE) : DD := ⟨room, fuse, es.map Ent.file, os.map OpE.op⟩

set_option maxRecDepth 10000 in
set_option maxHeartbeats 4000000 in
theorem specOk_lim (room fuse : Int) (A : Option Addr) (n c : Nat) (B : Option Addr) (m d : Nat) (w : World) (hn : n ≤ 1048576) (hm : m ≤ 1048576) (h : ¬ (0 ≤ room ∧ room ≤ 200000 ∧ -1 ≤ fuse ∧ fuse ≤ 2000 ∧ n ≤ 12 ∧ m ≤ 60)) :
    Calls Try.prog 34 #[.agg #[.int .i64 room, .int .i64 fuse, .slice A n c, .slice B m d]] w (Tells w false) := by
  by_cases h1 : room < 0
  · have d1 : decide (room < 0) = true := by simpa using h1
    clear h
    go_enter Try.func34, Try.ntmps34
    go_wp2
    go_quiet (fail)
    go_wp2
    go_ret
    exact ⟨rfl, below_drewN (below_a1 _ _) _⟩
  · have d1 : decide (room < 0) = false := by simpa using h1
    by_cases h2 : 200000 < room
    · have d2 : decide (200000 < room) = true := by simpa using h2
      clear h
      go_enter Try.func34, Try.ntmps34
      go_wp2
      go_quiet (fail)
      go_wp2
      go_ret
      exact ⟨rfl, below_drewN (below_a1 _ _) _⟩
    · have d2 : decide (200000 < room) = false := by simpa using h2
      by_cases h3 : fuse < -1
      · have d3 : decide (fuse < -1) = true := by simpa using h3
        clear h
        go_enter Try.func34, Try.ntmps34
        go_wp2
        go_quiet (fail)
        go_wp2
        go_ret
        exact ⟨rfl, below_drewN (below_a1 _ _) _⟩
      · have d3 : decide (fuse < -1) = false := by simpa using h3
        by_cases h4 : 2000 < fuse
        · have d4 : decide (2000 < fuse) = true := by simpa using h4
          clear h
          go_enter Try.func34, Try.ntmps34
          go_wp2
          go_quiet (fail)
          go_wp2
          go_ret
          exact ⟨rfl, below_drewN (below_a1 _ _) _⟩
        · have d4 : decide (2000 < fuse) = false := by simpa using h4
          by_cases h5 : 12 < n
          · have d5 : decide ((12 : Int) < (n : Int)) = true := by simp; omega
            have d5' : decide (12 < n) = true := by simpa using h5
            clear h
            go_enter Try.func34, Try.ntmps34
            go_wp2
            go_quiet (fail)
            go_wp2
            go_ret
            exact ⟨rfl, below_drewN (below_a1 _ _) _⟩
          · have d5 : decide ((12 : Int) < (n : Int)) = false := by simp; omega
            have d5' : decide (12 < n) = false := by simpa using h5
            by_cases h6 : 60 < m
            · have d6 : decide ((60 : Int) < (m : Int)) = true := by simp; omega
              have d6' : decide (60 < m) = true := by simpa using h6
              clear h
              go_enter Try.func34, Try.ntmps34
              go_wp2
              go_quiet (fail)
              go_wp2
              go_ret
              exact ⟨rfl, below_drewN (below_a1 _ _) _⟩
            · have d6 : decide ((60 : Int) < (m : Int)) = false := by simp; omega
              have d6' : decide (60 < m) = false := by simpa using h6
              exact absurd (by omega) h

end Go.Proofs.Ytfcomnpoehpgiaa
