/- A single frame: the contracts of the model's and the program's functions. Condition: at most 2^20 bytes. -/
import Derived.Test.YtdeijiochianpaaFrSpec
namespace Go.Proofs.Ytdeijiochianpaa
open Go.RowKit

def onlyR (xs : List Nat) (kind : Int) : List Nat × Bool := if (frR xs 0).2.2 = 0 ∧ (frR xs 0).2.1 = (xs.length : Int) ∧ (frR xs 0).1.1 = kind then ((frR xs 0).1.2, true) else ([], false)
theorem onlyR_small (xs : List Nat) (kind : Int) (hs : ∀ x ∈ xs, x < 256) : (∀ x ∈ (onlyR xs kind).1, x < 256) ∧ (onlyR xs kind).1.length ≤ 60000 := by
  unfold onlyR
  split
  · exact frR_small xs 0 hs
  · simp
def OnlyS (w : World) (r : List Nat × Bool) (e : Ending) (w' : World) : Prop := ∃ A c, e = .returned (.tuple #[.slice A r.1.length c, .bool r.2]) ∧ Rd w' A r.1.length r.1 ∧ Below w.heap.size w w'
def OnlyP (w : World) (r : List Nat × Bool) (e : Ending) (w' : World) : Prop := ∃ A c, e = .returned (.tuple #[.slice A r.1.length c, .bool r.2]) ∧ w'.ownsRow w.heap.size 5 1 (.slice A r.1.length c) r.1.length (vb r.1) ∧ Below w.heap.size w w'

set_option maxRecDepth 10000 in
set_option maxHeartbeats 2000000 in
theorem specOnly (A : Option Addr) (n c : Nat) (xs : List Nat) (kind : Int) (w : World) (hr : Rd w A n xs) (hn : n ≤ 1048576) (hc : n ≤ c) :
    Calls Try.prog 45 #[.slice A n c, .int .i64 kind] w (OnlyS w (onlyR xs kind)) := by
  have hl := hr.len
  have C := Lib.hid (specFrameRead A n c xs 0 w hr hn hc)
  have HO : Hid (onlyR xs kind = if (frR xs 0).2.2 = 0 ∧ (frR xs 0).2.1 = (n : Int) ∧ (frR xs 0).1.1 = kind then ((frR xs 0).1.2, true) else ([], false)) := Lib.hid (by unfold onlyR; rw [hl])
  generalize frR xs 0 = R at C HO
  obtain ⟨⟨kd, data⟩, nx, cd⟩ := R
  generalize onlyR xs kind = r at HO ⊢
  clear hr hl
  have HV : Hid (¬ (cd = 0 ∧ nx = (n : Int) ∧ kd = kind) → r = ([], false)) := Lib.hid (fun h => by rw [HO.out]; exact if_neg h)
  have HW : Hid ((cd = 0 ∧ nx = (n : Int) ∧ kd = kind) → r = (data, true)) := Lib.hid (fun h => by rw [HO.out]; exact if_pos h)
  clear HO
  by_cases h0 : cd = 0
  · have d0 : (cd == 0) = true := by simp [h0]
    have d0' : (cd != 0) = false := by simp [h0]
    by_cases h1 : nx = (n : Int)
    · have d1 : (nx == (n : Int)) = true := by simp [h1]
      have d1' : (nx != (n : Int)) = false := by simp [h1]
      by_cases h2 : kd = kind
      · have d2 : (kd == kind) = true := by simp [h2]
        have d2' : (kd != kind) = false := by simp [h2]
        have HF := Lib.hid (HW.out ⟨h0, h1, h2⟩)
        clear HW HV h0 h1 h2
        go_enter Try.func45, Try.ntmps45
        go_wp2_with fail
        refine C.out.mono ?_
        rintro e w1 ⟨A1, c1, rfl, hd1, _, hb1⟩
        have X1 := Lib.hid (Box2.new w1 (.int .i64 kd) (.slice A1 data.length c1) 59)
        have HB := Lib.hid (fr_chain hb1 (below_a1 w1 (.cells #[.int .i64 kd, .slice A1 data.length c1] 59)))
        have HD := Lib.hid (hd1.below (below_a1 w1 (.cells #[.int .i64 kd, .slice A1 data.length c1] 59)))
        clear hb1 hd1
        obtain ⟨l1, x0, x1⟩ := X1.out
        go_wp2
        go_ret2
        rw [HF.out]
        exact ⟨A1, c1, rfl, HD.out, HB.out⟩
      · have d2 : (kd == kind) = false := by simp [h2]
        have d2' : (kd != kind) = true := by simp [h2]
        have HF := Lib.hid (HV.out (fun h => h2 h.2.2))
        clear HW HV h0 h1 h2
        go_enter Try.func45, Try.ntmps45
        go_wp2_with fail
        refine C.out.mono ?_
        rintro e w1 ⟨A1, c1, rfl, hd1, _, hb1⟩
        have X1 := Lib.hid (Box2.new w1 (.int .i64 kd) (.slice A1 data.length c1) 59)
        have HB := Lib.hid (fr_chain hb1 (below_a1 w1 (.cells #[.int .i64 kd, .slice A1 data.length c1] 59)))
        have HD := Lib.hid (hd1.below (below_a1 w1 (.cells #[.int .i64 kd, .slice A1 data.length c1] 59)))
        clear hb1 hd1
        obtain ⟨l1, x0, x1⟩ := X1.out
        go_wp2
        go_ret2
        rw [HF.out]
        exact ⟨none, 0, rfl, Rd.nil, HB.out⟩
    · have d1 : (nx == (n : Int)) = false := by simp [h1]
      have d1' : (nx != (n : Int)) = true := by simp [h1]
      have HF := Lib.hid (HV.out (fun h => h1 h.2.1))
      by_cases h2 : kd = kind
      · have d2 : (kd == kind) = true := by simp [h2]
        have d2' : (kd != kind) = false := by simp [h2]
        clear HW HV h0 h1 h2
        go_enter Try.func45, Try.ntmps45
        go_wp2_with fail
        refine C.out.mono ?_
        rintro e w1 ⟨A1, c1, rfl, hd1, _, hb1⟩
        have X1 := Lib.hid (Box2.new w1 (.int .i64 kd) (.slice A1 data.length c1) 59)
        have HB := Lib.hid (fr_chain hb1 (below_a1 w1 (.cells #[.int .i64 kd, .slice A1 data.length c1] 59)))
        have HD := Lib.hid (hd1.below (below_a1 w1 (.cells #[.int .i64 kd, .slice A1 data.length c1] 59)))
        clear hb1 hd1
        obtain ⟨l1, x0, x1⟩ := X1.out
        go_wp2
        go_ret2
        rw [HF.out]
        exact ⟨none, 0, rfl, Rd.nil, HB.out⟩
      · have d2 : (kd == kind) = false := by simp [h2]
        have d2' : (kd != kind) = true := by simp [h2]
        clear HW HV h0 h1 h2
        go_enter Try.func45, Try.ntmps45
        go_wp2_with fail
        refine C.out.mono ?_
        rintro e w1 ⟨A1, c1, rfl, hd1, _, hb1⟩
        have X1 := Lib.hid (Box2.new w1 (.int .i64 kd) (.slice A1 data.length c1) 59)
        have HB := Lib.hid (fr_chain hb1 (below_a1 w1 (.cells #[.int .i64 kd, .slice A1 data.length c1] 59)))
        have HD := Lib.hid (hd1.below (below_a1 w1 (.cells #[.int .i64 kd, .slice A1 data.length c1] 59)))
        clear hb1 hd1
        obtain ⟨l1, x0, x1⟩ := X1.out
        go_wp2
        go_ret2
        rw [HF.out]
        exact ⟨none, 0, rfl, Rd.nil, HB.out⟩
  · have d0 : (cd == 0) = false := by simp [h0]
    have d0' : (cd != 0) = true := by simp [h0]
    have HF := Lib.hid (HV.out (fun h => h0 h.1))
    clear HW HV h0
    go_enter Try.func45, Try.ntmps45
    go_wp2_with fail
    refine C.out.mono ?_
    rintro e w1 ⟨A1, c1, rfl, hd1, _, hb1⟩
    have X1 := Lib.hid (Box2.new w1 (.int .i64 kd) (.slice A1 data.length c1) 59)
    have HB := Lib.hid (fr_chain hb1 (below_a1 w1 (.cells #[.int .i64 kd, .slice A1 data.length c1] 59)))
    have HD := Lib.hid (hd1.below (below_a1 w1 (.cells #[.int .i64 kd, .slice A1 data.length c1] 59)))
    clear hb1 hd1
    obtain ⟨l1, x0, x1⟩ := X1.out
    go_wp2
    go_ret2
    rw [HF.out]
    exact ⟨none, 0, rfl, Rd.nil, HB.out⟩

set_option maxRecDepth 10000 in
set_option maxHeartbeats 2000000 in
theorem implOnly (A : Option Addr) (n c : Nat) (xs : List Nat) (kind : Int) (w : World) (hr : Rd w A n xs) (hn : n ≤ 1048576) (hc : n ≤ c) :
    Calls Try.prog 46 #[.slice A n c, .int .i64 kind] w (OnlyP w (onlyR xs kind)) := by
  have hl := hr.len
  have C := Lib.hid (implFrameRead A n c xs 0 w hr hn hc)
  have HO : Hid (onlyR xs kind = if (frR xs 0).2.2 = 0 ∧ (frR xs 0).2.1 = (n : Int) ∧ (frR xs 0).1.1 = kind then ((frR xs 0).1.2, true) else ([], false)) := Lib.hid (by unfold onlyR; rw [hl])
  generalize frR xs 0 = R at C HO
  obtain ⟨⟨kd, data⟩, nx, cd⟩ := R
  generalize onlyR xs kind = r at HO ⊢
  clear hr hl
  have HV : Hid (¬ (cd = 0 ∧ nx = (n : Int) ∧ kd = kind) → r = ([], false)) := Lib.hid (fun h => by rw [HO.out]; exact if_neg h)
  have HW : Hid ((cd = 0 ∧ nx = (n : Int) ∧ kd = kind) → r = (data, true)) := Lib.hid (fun h => by rw [HO.out]; exact if_pos h)
  clear HO
  by_cases h0 : cd = 0
  · have d0 : (cd == 0) = true := by simp [h0]
    have d0' : (cd != 0) = false := by simp [h0]
    by_cases h1 : nx = (n : Int)
    · have d1 : (nx == (n : Int)) = true := by simp [h1]
      have d1' : (nx != (n : Int)) = false := by simp [h1]
      by_cases h2 : kd = kind
      · have d2 : (kd == kind) = true := by simp [h2]
        have d2' : (kd != kind) = false := by simp [h2]
        have HF := Lib.hid (HW.out ⟨h0, h1, h2⟩)
        clear HW HV h0 h1 h2
        go_enter Try.func46, Try.ntmps46
        go_wp2_with fail
        refine C.out.mono ?_
        rintro e w1 ⟨A1, c1, rfl, hd1, hb1⟩
        have X1 := Lib.hid (Box2.new w1 (.int .i64 kd) (.slice A1 data.length c1) 59)
        have HB := Lib.hid (fr_chain hb1 (below_a1 w1 (.cells #[.int .i64 kd, .slice A1 data.length c1] 59)))
        have HD := Lib.hid (own_below hd1 (below_a1 w1 (.cells #[.int .i64 kd, .slice A1 data.length c1] 59)))
        clear hb1 hd1
        obtain ⟨l1, x0, x1⟩ := X1.out
        go_wp2
        go_ret2
        rw [HF.out]
        exact ⟨A1, c1, rfl, HD.out, HB.out⟩
      · have d2 : (kd == kind) = false := by simp [h2]
        have d2' : (kd != kind) = true := by simp [h2]
        have HF := Lib.hid (HV.out (fun h => h2 h.2.2))
        clear HW HV h0 h1 h2
        go_enter Try.func46, Try.ntmps46
        go_wp2_with fail
        refine C.out.mono ?_
        rintro e w1 ⟨A1, c1, rfl, hd1, hb1⟩
        have X1 := Lib.hid (Box2.new w1 (.int .i64 kd) (.slice A1 data.length c1) 59)
        have HB := Lib.hid (fr_chain hb1 (below_a1 w1 (.cells #[.int .i64 kd, .slice A1 data.length c1] 59)))
        have HD := Lib.hid (own_below hd1 (below_a1 w1 (.cells #[.int .i64 kd, .slice A1 data.length c1] 59)))
        clear hb1 hd1
        obtain ⟨l1, x0, x1⟩ := X1.out
        go_wp2
        go_ret2
        rw [HF.out]
        exact ⟨none, 0, rfl, World.ownsRow_nil _ _ _ _, HB.out⟩
    · have d1 : (nx == (n : Int)) = false := by simp [h1]
      have d1' : (nx != (n : Int)) = true := by simp [h1]
      have HF := Lib.hid (HV.out (fun h => h1 h.2.1))
      by_cases h2 : kd = kind
      · have d2 : (kd == kind) = true := by simp [h2]
        have d2' : (kd != kind) = false := by simp [h2]
        clear HW HV h0 h1 h2
        go_enter Try.func46, Try.ntmps46
        go_wp2_with fail
        refine C.out.mono ?_
        rintro e w1 ⟨A1, c1, rfl, hd1, hb1⟩
        have X1 := Lib.hid (Box2.new w1 (.int .i64 kd) (.slice A1 data.length c1) 59)
        have HB := Lib.hid (fr_chain hb1 (below_a1 w1 (.cells #[.int .i64 kd, .slice A1 data.length c1] 59)))
        have HD := Lib.hid (own_below hd1 (below_a1 w1 (.cells #[.int .i64 kd, .slice A1 data.length c1] 59)))
        clear hb1 hd1
        obtain ⟨l1, x0, x1⟩ := X1.out
        go_wp2
        go_ret2
        rw [HF.out]
        exact ⟨none, 0, rfl, World.ownsRow_nil _ _ _ _, HB.out⟩
      · have d2 : (kd == kind) = false := by simp [h2]
        have d2' : (kd != kind) = true := by simp [h2]
        clear HW HV h0 h1 h2
        go_enter Try.func46, Try.ntmps46
        go_wp2_with fail
        refine C.out.mono ?_
        rintro e w1 ⟨A1, c1, rfl, hd1, hb1⟩
        have X1 := Lib.hid (Box2.new w1 (.int .i64 kd) (.slice A1 data.length c1) 59)
        have HB := Lib.hid (fr_chain hb1 (below_a1 w1 (.cells #[.int .i64 kd, .slice A1 data.length c1] 59)))
        have HD := Lib.hid (own_below hd1 (below_a1 w1 (.cells #[.int .i64 kd, .slice A1 data.length c1] 59)))
        clear hb1 hd1
        obtain ⟨l1, x0, x1⟩ := X1.out
        go_wp2
        go_ret2
        rw [HF.out]
        exact ⟨none, 0, rfl, World.ownsRow_nil _ _ _ _, HB.out⟩
  · have d0 : (cd == 0) = false := by simp [h0]
    have d0' : (cd != 0) = true := by simp [h0]
    have HF := Lib.hid (HV.out (fun h => h0 h.1))
    clear HW HV h0
    go_enter Try.func46, Try.ntmps46
    go_wp2_with fail
    refine C.out.mono ?_
    rintro e w1 ⟨A1, c1, rfl, hd1, hb1⟩
    have X1 := Lib.hid (Box2.new w1 (.int .i64 kd) (.slice A1 data.length c1) 59)
    have HB := Lib.hid (fr_chain hb1 (below_a1 w1 (.cells #[.int .i64 kd, .slice A1 data.length c1] 59)))
    have HD := Lib.hid (own_below hd1 (below_a1 w1 (.cells #[.int .i64 kd, .slice A1 data.length c1] 59)))
    clear hb1 hd1
    obtain ⟨l1, x0, x1⟩ := X1.out
    go_wp2
    go_ret2
    rw [HF.out]
    exact ⟨none, 0, rfl, World.ownsRow_nil _ _ _ _, HB.out⟩
end Go.Proofs.Ytdeijiochianpaa
