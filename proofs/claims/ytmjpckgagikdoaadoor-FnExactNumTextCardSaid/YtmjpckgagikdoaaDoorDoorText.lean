/- The contract of the program's NumText, given that the library's table of powers of ten holds what its text lays; the walk of the law FnExactNumText under that condition. -/
import Derived.Test.YtmjpckgagikdoaaDoorNumImpl
import Derived.Test.YtmjpckgagikdoaaDoorNumText
import Derived.Test.YtmjpckgagikdoaaDoorShelfItoa
import Derived.Sort.Grow
namespace Go.Proofs.YtmjpckgagikdoaaDoor
open Go.RowKit



/-- A variable holds what it held where nothing old is written. -/
theorem var_below {P : Program} {w w' : World} {n : String} {cs : Array Value} (h : w.var? P n = some cs) (hb : Below w.heap.size w w') : w'.var? P n = some cs := by
  unfold World.var? at h ⊢
  cases hg : P.globalNamed n with
  | none => simp [hg] at h
  | some g =>
    rw [hg] at h
    simp only [Option.bind_some] at h ⊢
    rcases Nat.lt_or_ge g w.heap.size with hlt | hge
    · rw [hb.block g hlt]; exact h
    · rw [Array.getElem?_eq_none hge] at h; cases h
def Pow10 (w : World) : Prop := Lib.TabIs Tryd.prog w "internal/strconv.uint64pow10" .u64 Lib.pow10Tab
theorem Pow10.below {w w' : World} (h : Pow10 w) (hb : Below w.heap.size w w') : Pow10 w' := var_below h hb
theorem below_grow (w : World) (k : Nat) (os : Array Obj) : Below w.heap.size w (Sort.grow (w.drewN k) os) :=
  ⟨rfl, rfl, rfl, by simp [Sort.grow], fun j hj => by simp [Sort.grow, Array.getElem?_append, hj]⟩

theorem implText_yes (n : Nat) (w : World) (h : n ≤ 281474976710655) (ht : Pow10 w) : Calls Tryd.prog 16 #[.int .i64 (n : Int)] w (TextRes w n) := by
  have C0 : Calls Tryd.prog 30 #[.int .i64 (n : Int)] w fun e w' => e = .returned (.string ⟨(Lib.itoa (n : Int)).toArray⟩) ∧ ∃ k os, w' = Sort.grow (w.drewN k) os := Any.strconv_Itoa Tryd.laysM171 (n : Int) (by omega) (by omega) w ht
  have C := Lib.hid C0
  clear C0
  have e : Lib.itoa (n : Int) = Lib.decDigits n := by unfold Lib.itoa; rw [if_neg (by omega), Int.toNat_natCast]
  rw [e] at C
  clear e
  go_enter Tryd.func16, Tryd.ntmps16
  go_wp2_with (first
    | (go_at_call 27; refine (implNum_yes _ _ (by omega) (by omega)).mono ?_; rintro e w' ⟨rfl, rfl⟩)
    | (go_at_call 30; refine C.out.mono ?_; rintro e w' ⟨rfl, k, os, rfl⟩))
  go_ret
  exact ⟨rfl, below_grow w k os⟩
theorem implText_no (n : Int) (w : World) (h : n < 0 ∨ 281474976710655 < n) : Calls Tryd.prog 16 #[.int .i64 n] w fun e w' => e = .returned (.string ⟨#[]⟩) ∧ w = w' := by
  go_enter Tryd.func16, Tryd.ntmps16
  go_wp2_with (go_at_call 27; refine (implNum_no _ _ h).mono ?_; rintro e w' ⟨rfl, rfl⟩)
  go_ret
  exact ⟨rfl, rfl⟩

theorem walkNumText (a0 : Int) (w0 : (Lit.int .i64 a0).wf = true) (w : World) (ht : Pow10 w) :
    Calls Tryd.prog 4 #[.int .i64 a0] w fun e w' => e = .returned (.bool true) ∧ Below w.heap.size w w' := by
  obtain ⟨hb1, hb2⟩ := bounds_i64 w0
  clear w0
  by_cases h : 0 ≤ a0 ∧ a0 ≤ 281474976710655
  · obtain ⟨n, rfl⟩ : ∃ n : Nat, a0 = n := ⟨a0.toNat, by omega⟩
    have CS := Lib.hid (specText_yes n w (by omega))
    have CI := Lib.hid (fun W h => implText_yes n W (by omega) h)
    unfold TextRes at CS CI
    generalize (⟨(Lib.decDigits n).toArray⟩ : ByteArray) = S at CS CI
    have HT := Lib.hid ht
    clear ht h
    go_enter Tryd.func4, Tryd.ntmps4
    go_wp2_with fail
    refine CS.out.mono ?_
    rintro e wa ⟨rfl, hba⟩
    go_wp2_with fail
    refine (CI.out wa (HT.out.below hba)).mono ?_
    rintro e wb ⟨rfl, hbb⟩
    go_wp2
    go_ret
    exact ⟨rfl, hba.trans (hbb.mono hba.size)⟩
  · have CS := Lib.hid (specText_no a0 w (by omega))
    have CI := Lib.hid (implText_no a0 w (by omega))
    clear h
    go_enter Tryd.func4, Tryd.ntmps4
    go_wp2_with fail
    refine CS.out.mono ?_
    rintro e wa ⟨rfl, rfl⟩
    go_wp2_with fail
    refine CI.out.mono ?_
    rintro e wb ⟨rfl, rfl⟩
    go_wp2
    go_ret
    exact ⟨rfl, Below.refl _ _⟩
end Go.Proofs.YtmjpckgagikdoaaDoor
