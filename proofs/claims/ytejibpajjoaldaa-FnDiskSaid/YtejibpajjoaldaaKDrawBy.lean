/- Parted from YtejibpajjoaldaaDraw: the contract of the function that draws bytes. -/
import Derived.Test.YtejibpajjoaldaaKDraw
namespace Go.Proofs.Ytejibpajjoaldaa
open Go.RowKit

def BytesRes (w : World) (g : Nat) (A : Option Addr) (n c : Nat) (xs : List Nat) (m : Nat) (e : Ending) (w' : World) : Prop :=
  ∃ (ys : List Nat) (B : Option Addr) (d : Nat), ys.length ≤ m ∧ (∀ x ∈ ys, x < 256) ∧ e = .returned (.slice B ys.length d) ∧ w'.ownsRow w.heap.size 5 1 (.slice B ys.length d) ys.length (vb ys) ∧ Cur w' g A n c xs ∧ w.grownBy w' (some g)

set_option maxRecDepth 10000 in
set_option maxHeartbeats 1000000 in
theorem drawBytes (g : Nat) (A : Option Addr) (n c m : Nat) (xs : List Nat) (w : World) (hcur : Cur w g A n c xs) (hg : g < w.heap.size) (hm : m ≤ 255) (hA : 0 < n → ∀ b off sp, A = some ⟨b, off, sp⟩ → b < w.heap.size) :
    Calls Try.prog 74 #[.pointer (some ⟨g, 0, none⟩), .int .i64 (m : Int)] w (BytesRes w g A n c xs m) := by
  obtain ⟨i0, hi, hz0, hz1, hz2⟩ := info_parts Try.infoByte
  have C := Lib.hid (drawBelow g A n c (m + 1) xs w hcur (by omega) (by omega))
  have HA := Lib.hid hA
  clear hcur hA
  rw [Int.natCast_add] at C
  go_enter Try.func74, Try.ntmps74
  go_wp2_with (go_at_call 40; refine C.out.mono ?_; rintro e w1 ⟨k, hk, rfl, hcur, hgr⟩)
  have hs1 := hgr.size
  have hb1 : Below w1.heap.size w1 (w1.alloc (.cells #[] 5)) := (Below.refl _ _).alloc (Nat.le_refl _) _
  have hcur1 := hcur.grow hb1
  have hgr1 : w.grownBy (w1.alloc (.cells #[] 5)) (some g) := grownBy_trans hgr (grownBy_of_below hb1 _)
  have ho1 : (w1.alloc (.cells #[] 5)).ownsRow w.heap.size 5 1 (.slice (some ⟨w1.heap.size, 0, none⟩) 0 0) ([] : List Nat).length (vb []) := World.ownsRow_lit w1 #[] 0 hs1 (by unfold maxLen; omega) rfl
  clear hcur hgr
  go_loopw [6, 7] (fun v t wr => ∃ (j : Nat) (ys : List Nat), j ≤ k ∧ t = .int .i64 (j : Int) ∧ ys.length = j ∧ (∀ x ∈ ys, x < 256) ∧ wr.ownsRow w.heap.size 5 1 v ys.length (vb ys) ∧ Cur wr g A n c xs ∧ w.grownBy wr (some g)) (fun _ t _ => k - (intOf t).toNat)
  case atStart => exact ⟨0, [], by omega, rfl, rfl, by simp, ho1, hcur1, hgr1⟩
  case round =>
    obtain ⟨j, ys, hj, rfl, hyl, hsm, hown, hcu, hgr⟩ := hrel
    have hyl2 : ys.length ≤ 256 := by omega
    have HYL := Lib.hid hyl
    have HSM := Lib.hid hsm
    have hsz := hgr.size
    clear hyl hsm
    by_cases hlt : j < k
    · have CB := Lib.hid (drawByte g A n c xs wr hcu)
      have HO := Lib.hid hown
      have HGR := Lib.hid hgr
      clear hcu hown hgr
      go_wp2_with (first
        | (go_at_call 73; refine CB.out.mono ?_; rintro e w2 ⟨x, hx, rfl, hcu2, hgr2⟩; have ho2 := own_far HO.out hgr2 hg; have hsz2 := hgr2.size)
        | (at_builtin; refine wpList_append_any _ rfl (.tmp 18) (.tmp 22) _ rfl w.heap.size 5 i0 _ 1 1 Try.underlying22 hi hz0 hz1 hz2 rfl (by omega) _ ys.length (vb ys) rfl (ho2.alloc _) (w2.heap.size + 1) (some ⟨w2.heap.size, 0, none⟩) 1 1 [.int .u8 _] rfl (one_reads _ _) (one_cell _) (by simp only [maxLen]; omega) (by omega) (by simp; omega) ?_; intro v3 w3 hown3 hg3 hat3))
      have ho3 := own_snoc (y := x) hown3 rfl (by omega)
      have hcu3 : Cur w3 g A n c xs := (hcu2.grow ((Below.refl _ _).alloc (Nat.le_refl _) _)).far hg3 (fun q hq => (ho2.lt q hq).1) hg HA.out
      have hgr3 : w.grownBy w3 (some g) := grownBy_far (grownBy_trans (grownBy_trans HGR.out hgr2) (grownBy_of_below ((Below.refl _ _).alloc (Nat.le_refl _) _) _)) hg3 (fun q hq => (ho2.lt q hq).1)
      clear hown3 hg3 hat3 hcu2 hgr2 ho2
      go_roundw
      case rel => exact ⟨j + 1, ys ++ [x], by omega, by go_num, by simp [HYL.out], by
        intro y hy
        rcases List.mem_append.1 hy with hy | hy
        · exact HSM.out y hy
        · simp at hy; omega, ho3, hcu3, hgr3⟩
      case measure => simp [intOf]; omega
    · obtain ⟨B, d, rfl⟩ := own_form hown
      go_wp2
      go_ret
      exact ⟨ys, B, d, by rw [HYL.out]; omega, HSM.out, rfl, hown, hcu, hgr⟩
end Go.Proofs.Ytejibpajjoaldaa
