/- The contracts of the draws of a text out of a list and of a file's name. -/
import Derived.Test.YtejibpajjoaldaaKDrawBy
import Derived.Test.YtejibpajjoaldaaKWordsS
namespace Go.Proofs.Ytejibpajjoaldaa
open Go.RowKit

def OfRes (w : World) (g : Nat) (A : Option Addr) (n c : Nat) (xs : List Nat) (ss : List ByteArray) (e : Ending) (w' : World) : Prop :=
  ∃ s, s ∈ ss ∧ e = .returned (.string s) ∧ Cur w' g A n c xs ∧ w.grownBy w' (some g)

set_option maxHeartbeats 1000000 in
theorem drawOf (g : Nat) (A : Option Addr) (n c : Nat) (xs : List Nat) (P : Option Addr) (m d : Nat) (ss : List ByteArray) (w : World) (hcur : Cur w g A n c xs) (hr : RdS w P m ss) (h0 : 0 < m) (hm : m ≤ 256) (hP : ∀ b off sp, P = some ⟨b, off, sp⟩ → b ≠ g) :
    Calls Try.prog 88 #[.pointer (some ⟨g, 0, none⟩), .slice P m d] w (OfRes w g A n c xs ss) := by
  have C := Lib.hid (drawBelow g A n c m xs w hcur h0 hm)
  have HR := Lib.hid hr
  have HP := Lib.hid hP
  clear hcur hr hP
  go_enter Try.func88, Try.ntmps88
  go_wp2_with fail
  refine C.out.mono ?_
  rintro e w1 ⟨k, hk, rfl, hcu, hg⟩
  have hr1 : RdS w1 P m ss := HR.out.other hg (fun b off sp h1 h2 => HP.out b off sp h1 (by injection h2))
  obtain ⟨b, off, s, rfl, hbw, hs, c0⟩ := hr1.at_ hk
  have HC := Lib.hid hcu
  have HG := Lib.hid hg
  have HM := Lib.hid (List.mem_of_getElem? hs.out)
  clear hcu hg hr1 hs
  go_wp2
  go_ret
  exact ⟨s, HM.out, rfl, HC.out, HG.out⟩
/-- The names that are drawn. -/
def drawnNames : List ByteArray := [⟨#[108, 111, 103]⟩, ⟨#[108, 111, 103, 46, 110, 101, 119]⟩, ⟨#[103, 46, 49]⟩, ⟨#[118, 46, 49]⟩, ⟨#[118, 46, 50]⟩, ⟨#[97]⟩]
theorem names_row (w : World) (t : TypeId) : RdS (w.alloc (.cells #[.string ⟨#[108, 111, 103]⟩, .string ⟨#[108, 111, 103, 46, 110, 101, 119]⟩, .string ⟨#[103, 46, 49]⟩, .string ⟨#[118, 46, 49]⟩, .string ⟨#[118, 46, 50]⟩, .string ⟨#[97]⟩] t)) (some ⟨w.heap.size, 0, none⟩) 6 drawnNames := by
  refine ⟨rfl, fun _ => ⟨w.heap.size, 0, rfl, by simp, fun j s hs => ?_⟩⟩
  rw [Nat.zero_add]
  match j, hs with
  | 0, hs => simp [drawnNames] at hs; subst hs; simp
  | 1, hs => simp [drawnNames] at hs; subst hs; simp
  | 2, hs => simp [drawnNames] at hs; subst hs; simp
  | 3, hs => simp [drawnNames] at hs; subst hs; simp
  | 4, hs => simp [drawnNames] at hs; subst hs; simp
  | 5, hs => simp [drawnNames] at hs; subst hs; simp
def NameRes (w : World) (g : Nat) (A : Option Addr) (n c : Nat) (xs : List Nat) (e : Ending) (w' : World) : Prop := OfRes w g A n c xs drawnNames e w'
set_option maxHeartbeats 1000000 in
theorem drawName (g : Nat) (A : Option Addr) (n c : Nat) (xs : List Nat) (w : World) (hcur : Cur w g A n c xs) (hg : g < w.heap.size) :
    Calls Try.prog 71 #[.pointer (some ⟨g, 0, none⟩)] w (NameRes w g A n c xs) := by
  have CO := Lib.hid (fun W P (hc : Cur W g A n c xs) (hr : RdS W P 6 drawnNames) (hP : ∀ b off sp, P = some ⟨b, off, sp⟩ → b ≠ g) => drawOf g A n c xs P 6 6 drawnNames W hc hr (by omega) (by omega) hP)
  have HC := Lib.hid hcur
  clear hcur
  go_enter Try.func71, Try.ntmps71
  go_wp2_with fail
  refine (CO.out _ _ (HC.out.grow ((Below.refl _ _).alloc (Nat.le_refl _) _)) (names_row _ _) ?_).mono ?_
  · intro b off sp h
    injection h with h
    injection h with h1 h2 h3
    omega
  · rintro e w1 ⟨s, hs, rfl, hcu, hgr⟩
    have HG := Lib.hid (grownBy_trans (grownBy_of_below ((Below.refl _ _).alloc (Nat.le_refl _) _) _) hgr)
    have HC2 := Lib.hid hcu
    clear hgr hcu
    go_wp2
    go_ret
    exact ⟨s, hs, rfl, HC2.out, HG.out⟩
end Go.Proofs.Ytejibpajjoaldaa
