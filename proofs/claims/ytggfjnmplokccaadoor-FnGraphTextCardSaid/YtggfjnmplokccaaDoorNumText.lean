/- The contract of the model's NumText: the decimal digits of a number. -/
import Derived.Test.YtggfjnmplokccaaDoorNumSpec
import Derived.Test.YtggfjnmplokccaaDoorRows
import Derived.Test.YtggfjnmplokccaaDoorWords
import Derived.Test.YtggfjnmplokccaaDoorConv
import Derived.Deep.RegionWith
import Derived.Lib.ItoaNum
import Derived.Test.YtggfjnmplokccaaDoorDec
namespace Go.Proofs.YtggfjnmplokccaaDoor
open Go.RowKit



theorem below_cells {W w1 : World} (hb : Below W.heap.size W w1) : ∀ b o, b < W.heap.size → w1.cell? ⟨b, o, none⟩ = W.cell? ⟨b, o, none⟩ := fun b o h => hb.cell (p := ⟨b, o, none⟩) h
def TextRes (w : World) (n : Nat) (e : Ending) (w' : World) : Prop := e = .returned (.string ⟨(Lib.decDigits n).toArray⟩) ∧ Below w.heap.size w w'

set_option maxRecDepth 10000 in
set_option maxHeartbeats 1000000 in
theorem specText_yes (n : Nat) (w : World) (h : n ≤ 281474976710655) : Calls Tryd.prog 46 #[.int .i64 (n : Int)] w (TextRes w n) := by
  induction n using Nat.strongRecOn generalizing w with
  | ind n ih =>
    by_cases h10 : n < 10
    · obtain ⟨D, hD⟩ : ∃ D : ByteArray, D = ⟨#[UInt8.ofNat (48 + n)]⟩ := ⟨_, rfl⟩
      have hcv : ∀ W : World, W.cell? ⟨w.heap.size, 0, none⟩ = some (.int .u8 (48 + (n : Int))) → (convert 30 9 (.slice (some ⟨w.heap.size, 0, none⟩) 1 1)).run Tryd.prog W = .ok (.string D) W := fun W hc => by rw [hD]; exact conv_one W _ (48 + n) (by omega) hc
      have HD := Lib.hid hD
      clear ih hD
      go_enter Tryd.func46, Tryd.ntmps46
      go_wp2_with (go_at_call 56; refine (specNum_yes _ _ (by omega) (by omega)).mono ?_; rintro e w' ⟨rfl, rfl⟩)
      go_ret
      refine ⟨?_, (Below.refl _ _).alloc (Nat.le_refl _) _⟩
      rw [Lib.decDigits, dif_pos h10, ← HD.out]
      rfl
    · have ih2 := fun W => ih (n / 10) (by omega) W (by omega)
      unfold TextRes at ih2
      have hsz := decDigits_le (n / 10) (by omega)
      obtain ⟨q, hq⟩ : ∃ q, q = n / 10 := ⟨_, rfl⟩
      obtain ⟨d, hd⟩ : ∃ d, d = n % 10 := ⟨_, rfl⟩
      have e1 : (n : Int).tdiv 10 = (q : Int) := by rw [Int.tdiv_eq_ediv_of_nonneg (by omega)]; omega
      have e2 : (n : Int).tmod 10 = (d : Int) := by rw [Int.tmod_eq_emod_of_nonneg (by omega)]; omega
      have e3 : IntKind.i64.wrap (q : Int) = (q : Int) := IntWalk.i64_in _ (by omega)
      have e4 : IntKind.i64.wrap (48 + (d : Int)) = 48 + (d : Int) := IntWalk.i64_in _ (by omega)
      have e5 : IntKind.u8.wrap (48 + (d : Int)) = 48 + (d : Int) := by rw [IntKind.wrap_u8']; omega
      obtain ⟨D, hD⟩ : ∃ D : ByteArray, D = ⟨#[UInt8.ofNat (48 + d)]⟩ := ⟨_, rfl⟩
      obtain ⟨S, hS⟩ : ∃ S : ByteArray, S = ⟨(Lib.decDigits q).toArray⟩ := ⟨_, rfl⟩
      have hsz2 : S.size ≤ 16 := by rw [hS, hq]; simpa [ByteArray.size] using hsz
      have hsz3 : D.size ≤ 16 := by rw [hD]; simp [ByteArray.size]
      have hdd : Hid ((S ++ D) = ⟨(Lib.decDigits n).toArray⟩) := by
        show _ = _
        rw [Lib.decDigits, dif_neg h10, hS, hD, hq, hd]
        apply ByteArray.ext
        simp
      have hcv : ∀ (W : World) (g : Nat), W.cell? ⟨g, 0, none⟩ = some (.int .u8 (48 + (d : Int))) → (convert 30 9 (.slice (some ⟨g, 0, none⟩) 1 1)).run Tryd.prog W = .ok (.string D) W := fun W g hc => by rw [hD]; exact conv_one W g (48 + d) (by omega) (by rw [hc]; rfl)
      rw [← hq, ← hS] at ih2
      have IH := Lib.hid ih2
      clear ih ih2 hS hsz hD
      have H1 := Lib.hid hq
      have H2 := Lib.hid hd
      clear hq hd
      go_enter Tryd.func46, Tryd.ntmps46
      go_wp2_with (go_at_call 56; refine (specNum_yes _ _ (by omega) (by omega)).mono ?_; rintro e w' ⟨rfl, rfl⟩)
      go_region_with (go_at_call 46; ((with_reducible refine (IH.out _).mono ?_)); rintro e w1 ⟨rfl, hb⟩; have hcw := below_cells hb; have hzw := hb.size)
      all_goals
        go_wp2
        go_ret
        refine ⟨by rw [← hdd.out]; rfl, ?_⟩
        first
          | exact ((((Below.refl w.heap.size w).drew).trans hb).alloc hb.size _)
          | exact (((Below.refl w.heap.size w).drew).alloc (Nat.le_refl _) _).trans (hb.mono (by simp))
          | exact ((((Below.refl w.heap.size w).drew).alloc (Nat.le_refl _) _).trans (hb.mono (by simp))).drew

theorem specText_no (n : Int) (w : World) (h : n < 0 ∨ 281474976710655 < n) : Calls Tryd.prog 46 #[.int .i64 n] w fun e w' => e = .returned (.string ⟨#[]⟩) ∧ w = w' := by
  go_enter Tryd.func46, Tryd.ntmps46
  go_wp2_with (go_at_call 56; refine (specNum_no _ _ h).mono ?_; rintro e w' ⟨rfl, rfl⟩)
  go_ret
  exact ⟨rfl, rfl⟩
end Go.Proofs.YtggfjnmplokccaaDoor
