/- A new disk: the contracts of the model's and of the program's function. -/
import Derived.Test.YthpedhnpgomoaaaRes
namespace Go.Proofs.Ythpedhnpgomoaaa
open Go.RowKit

def newOk (room : Int) : Bool := decide (0 ≤ room ∧ room ≤ 200000)
def newD (room : Int) : DD := if newOk room then ⟨room, -1, [], []⟩ else DD.zero

theorem implNew_yes (room : Int) (w : World) (h1 : 0 ≤ room) (h2 : room ≤ 200000) : Calls Try.prog 38 #[.int .i64 room] w (ResD w ⟨room, -1, [], []⟩ (.bool true)) := by
  go_enter Try.func38, Try.ntmps38
  go_wp2
  exact bodyPost_ret (v := .tuple #[.agg #[.int .i64 room, .int .i64 (-1), .slice none 0 0, .slice none 0 0], .bool true]) (by simp [results, Try.results38, go_sem]) rfl ⟨none, 0, 0, none, 0, 0, [], [], rfl, rfl, rfl, rfl, rfl, OwnD.nil, below_a1 _ _⟩
theorem implNew_no (room : Int) (w : World) (h : room < 0 ∨ 200000 < room) : Calls Try.prog 38 #[.int .i64 room] w (ResD w DD.zero (.bool false)) := by
  rcases h with h | h
  · go_enter Try.func38, Try.ntmps38
    go_wp2
    exact bodyPost_ret (v := .tuple #[.agg #[.int .i64 0, .int .i64 0, .slice none 0 0, .slice none 0 0], .bool false]) (by simp [results, Try.results38, go_sem]) rfl ⟨none, 0, 0, none, 0, 0, [], [], rfl, rfl, rfl, rfl, rfl, OwnD.nil, below_a1 _ _⟩
  · have h' : ¬ room < 0 := by omega
    go_enter Try.func38, Try.ntmps38
    go_wp2
    exact bodyPost_ret (v := .tuple #[.agg #[.int .i64 0, .int .i64 0, .slice none 0 0, .slice none 0 0], .bool false]) (by simp [results, Try.results38, go_sem]) rfl ⟨none, 0, 0, none, 0, 0, [], [], rfl, rfl, rfl, rfl, rfl, OwnD.nil, below_a1 _ _⟩
theorem specNew_yes (room : Int) (w : World) (h1 : 0 ≤ room) (h2 : room ≤ 200000) : Calls Try.prog 37 #[.int .i64 room] w (SeeD w ⟨room, -1, [], []⟩ (.bool true)) := by
  go_enter Try.func37, Try.ntmps37
  go_wp2
  exact bodyPost_ret (v := .tuple #[.agg #[.int .i64 room, .int .i64 (-1), .slice none 0 0, .slice none 0 0], .bool true]) (by simp [results, Try.results37, go_sem]) rfl ⟨none, 0, 0, none, 0, 0, [], [], rfl, rfl, rfl, SlF.nil, SlO.nil, below_a1 _ _⟩
theorem specNew_no (room : Int) (w : World) (h : room < 0 ∨ 200000 < room) : Calls Try.prog 37 #[.int .i64 room] w (SeeD w DD.zero (.bool false)) := by
  rcases h with h | h
  · go_enter Try.func37, Try.ntmps37
    go_wp2
    exact bodyPost_ret (v := .tuple #[.agg #[.int .i64 0, .int .i64 0, .slice none 0 0, .slice none 0 0], .bool false]) (by simp [results, Try.results37, go_sem]) rfl ⟨none, 0, 0, none, 0, 0, [], [], rfl, rfl, rfl, SlF.nil, SlO.nil, below_a1 _ _⟩
  · have h' : ¬ room < 0 := by omega
    go_enter Try.func37, Try.ntmps37
    go_wp2
    exact bodyPost_ret (v := .tuple #[.agg #[.int .i64 0, .int .i64 0, .slice none 0 0, .slice none 0 0], .bool false]) (by simp [results, Try.results37, go_sem]) rfl ⟨none, 0, 0, none, 0, 0, [], [], rfl, rfl, rfl, SlF.nil, SlO.nil, below_a1 _ _⟩
theorem implNew (room : Int) (w : World) : Calls Try.prog 38 #[.int .i64 room] w (ResD w (newD room) (.bool (newOk room))) := by
  by_cases h : 0 ≤ room ∧ room ≤ 200000
  · have e : newOk room = true := by simp only [newOk, decide_eq_true h]
    rw [newD, e]
    exact implNew_yes room w h.1 h.2
  · have e : newOk room = false := by simp only [newOk, decide_eq_false h]
    rw [newD, e]
    exact implNew_no room w (by omega)
theorem specNew (room : Int) (w : World) : Calls Try.prog 37 #[.int .i64 room] w (SeeD w (newD room) (.bool (newOk room))) := by
  by_cases h : 0 ≤ room ∧ room ≤ 200000
  · have e : newOk room = true := by simp only [newOk, decide_eq_true h]
    rw [newD, e]
    exact specNew_yes room w h.1 h.2
  · have e : newOk room = false := by simp only [newOk, decide_eq_false h]
    rw [newD, e]
    exact specNew_no room w (by omega)
end Go.Proofs.Ythpedhnpgomoaaa
