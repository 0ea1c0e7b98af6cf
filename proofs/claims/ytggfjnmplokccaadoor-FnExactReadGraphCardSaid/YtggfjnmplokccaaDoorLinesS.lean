/- The contract of the model's function that cuts a text into lines. Condition: at most 2^20 bytes. -/
import Derived.Test.YtggfjnmplokccaaDoorReadMath
namespace Go.Proofs.YtggfjnmplokccaaDoor
open Go.RowKit

set_option maxRecDepth 10000 in
set_option maxHeartbeats 1000000 in
theorem specLines (s : ByteArray) (w : World) (hs : s.size ≤ 1048576) : Calls Tryd.prog 15 #[.string s] w (PartsRes w (linesOf s)) := by
  obtain ⟨i0, hi, hz0, hz1, hz2⟩ := info_parts Tryd.infoStr
  have hc0 := Lining.start s
  go_enter Tryd.func15, Tryd.ntmps15
  go_wp2
  have ho0 : (w.alloc (.cells #[] 9)).ownsRow w.heap.size 9 1 (.slice (some ⟨w.heap.size, 0, none⟩) 0 0) ([] : List ByteArray).length (vs []) := World.ownsRow_lit w #[] 0 (Nat.le_refl _) (by unfold maxLen; omega) rfl
  have hb0 : Below w.heap.size w (w.alloc (.cells #[] 9)) := (Below.refl _ _).alloc (Nat.le_refl _) _
  go_loopw [3, 4, 5] (fun v t5 t wr => ∃ (i f : Nat) (acc : List ByteArray), i ≤ s.size ∧ t = .int .i64 (i : Int) ∧ t5 = .int .i64 (f : Int) ∧ f ≤ i ∧ Lining s acc f i ∧ acc.length ≤ i ∧ wr.ownsRow w.heap.size 9 1 v acc.length (vs acc) ∧ Below w.heap.size w wr) (fun _ _ t _ => s.size - (intOf t).toNat)
  case atStart => exact ⟨0, 0, [], by omega, rfl, rfl, by omega, hc0, by simp, ho0, hb0⟩
  case round =>
    obtain ⟨i, f, acc, hile, rfl, rfl, hfi, hcut, hal, hown, hbel⟩ := hrel
    by_cases hlt : i < s.size
    · by_cases hb : s[i] = 10
      · have hcut2 := hcut.cut hlt hb
        have heq : ((s[i].toNat : Int) == 10) = true := by rw [hb]; rfl
        have HO := Lib.hid hown
        clear hb hcut hown
        go_wp2_with (at_builtin; refine wpList_append_any _ rfl (.tmp 17) (.tmp 22) _ rfl w.heap.size 9 i0 _ 1 16 Tryd.underlying39 hi hz0 hz1 hz2 rfl (by omega) _ acc.length (vs acc) rfl (HO.out.alloc _) (wr.heap.size + 1) (some ⟨wr.heap.size, 0, none⟩) 1 1 [.string _] rfl (one_readsS _ _) (one_cellS _) (by simp only [maxLen]; omega) (by omega) (by have := hbel.size; simp; omega) ?_; intro v2 w2 hown2 hg2 hat2)
        have ho2 := own_snocS hown2 rfl
        have hb2 : Below w.heap.size w w2 := (hbel.alloc hbel.size _).grown hg2 (by have := hbel.size; simp; omega) (fun q hq => (HO.out.lt q hq).1)
        clear hown2 hg2 hat2
        go_roundw
        case rel => exact ⟨i + 1, i + 1, _, by omega, by go_num, by go_num, Nat.le_refl _, hcut2, by simp; omega, ho2, hb2⟩
        case measure => simp [intOf]; omega
      · have hcut2 := hcut.go hlt hb
        have heq : ((s[i].toNat : Int) == 10) = false := beq_eq_false_iff_ne.mpr (fun h => hb (by
          apply UInt8.toNat_inj.1
          exact Int.natCast_inj.1 h))
        clear hb hcut
        go_wp2
        go_roundw
        case rel => exact ⟨i + 1, f, acc, by omega, by go_num, rfl, by omega, hcut2, by omega, hown, hbel⟩
        case measure => simp [intOf]; omega
    · by_cases hf : f < s.size
      · have hfin := Lib.hid (hcut.some (by omega) hf)
        have HO := Lib.hid hown
        clear hcut hown
        go_wp2_with (at_builtin; refine wpList_append_any _ rfl (.tmp 30) (.tmp 34) _ rfl w.heap.size 9 i0 _ 1 16 Tryd.underlying39 hi hz0 hz1 hz2 rfl (by omega) _ acc.length (vs acc) rfl (HO.out.alloc _) (wr.heap.size + 1) (some ⟨wr.heap.size, 0, none⟩) 1 1 [.string _] rfl (one_readsS _ _) (one_cellS _) (by simp only [maxLen]; omega) (by omega) (by have := hbel.size; simp; omega) ?_; intro v2 w2 hown2 hg2 hat2)
        have ho2 := own_snocS hown2 rfl
        have hb2 : Below w.heap.size w w2 := (hbel.alloc hbel.size _).grown hg2 (by have := hbel.size; simp; omega) (fun q hq => (HO.out.lt q hq).1)
        obtain ⟨A2, c2, rfl⟩ := own_form ho2
        go_ret
        rw [hfin.out]
        exact ⟨A2, c2, rfl, ho2, hb2⟩
      · have hfin := Lib.hid (hcut.none (by omega) hf)
        obtain ⟨A2, c2, rfl⟩ := own_form hown
        clear hcut
        go_wp2
        go_ret
        rw [hfin.out]
        exact ⟨A2, c2, rfl, hown, hbel⟩
end Go.Proofs.YtggfjnmplokccaaDoor
