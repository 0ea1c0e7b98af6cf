/- The contract of the program's function that copies a set: new bytes. -/
import Derived.Test.YtbkchmkhaapmaaaDoorSetW
import Derived.Laws.CopyOwn
namespace Go.Proofs.YtbkchmkhaapmaaaDoor
open Go.RowKit
set_option linter.unusedVariables false

theorem row_blk {w : World} {base e n g : Nat} {xs : List Value} (h : w.ownsRow base e 1 (.slice (some ⟨g, 0, none⟩) n n) n xs) : w.heap[g]? = some (.cells xs.toArray e (0, 0)) := by
  obtain ⟨hl, h2⟩ := h
  rcases h2 with ⟨h2, _⟩ | ⟨g', cap, cur, e1, _, hg, _, _, hs, ht⟩
  · cases h2
  · injection e1 with e1 _ e3
    injection e1 with e1
    injection e1 with e1
    subst e1 e3
    rw [List.take_of_length_le (by simp; omega)] at ht
    subst ht
    simpa using hg
theorem blk_row {w : World} {base e n g : Nat} {xs : List Value} (h : w.heap[g]? = some (.cells xs.toArray e (0, 0))) (hb : base ≤ g) (hl : xs.length = n) (hn : n ≤ maxLen) : w.ownsRow base e 1 (.slice (some ⟨g, 0, none⟩) n n) n xs :=
  ⟨by omega, .inr ⟨g, n, xs.toArray, rfl, hb, h, Nat.le_refl _, hn, by simp [hl], by rw [Nat.mul_one]; exact List.take_of_length_le (by show xs.length ≤ n; omega)⟩⟩
theorem Rd.src {w : World} {A : Option Addr} {n : Nat} {xs : List Nat} (h : Rd w A n xs) (hn : 0 < n) : ∃ ad, A = some ad ∧ ∀ j v, (vb xs)[j]? = some v → w.cell? (ad.add j) = some v := by
  obtain ⟨b, off, e, _, hc⟩ := h.lies hn
  refine ⟨⟨b, off, none⟩, e, fun j v hv => ?_⟩
  rw [vb_get] at hv
  obtain ⟨x, hx, rfl⟩ := Option.map_eq_some_iff.1 hv
  have hx2 : ((⟨b, off, none⟩ : Addr).add j) = ⟨b, off + j, none⟩ := by unfold Addr.add; split <;> simp_all
  rw [hx2]
  exact hc j x hx
theorem grownBy_none {w w' : World} (h : w.grownBy w' none) : Below w.heap.size w w' := ⟨h.os, h.tape, h.output, h.size, fun k hk => h.block k hk (by simp)⟩
set_option maxRecDepth 10000 in
set_option maxHeartbeats 8000000 in
theorem implCopySet (N : Int) (A : Option Addr) (n c : Nat) (xs : List Nat) (w : World) (hr : Rd w A n xs) (hn : n ≤ 2097152) :
    Calls Tryd.prog 46 #[.agg #[.int .i64 N, .slice A n c]] w (MadeS w N xs) := by
  obtain ⟨i0, hi, hz0, hz1, hz2⟩ := info_parts Tryd.infoByte
  have HL := Lib.hid hr.len
  have HR := Lib.hid hr
  clear hr
  have HB0 := Lib.hid ((SBx.new w N A n c).below (below_a1 _ (.cells #[.int .i64 0, .slice none 0 0] 24)))
  have HB1 := Lib.hid (SBx.new1 w (.cells #[.int .i64 N, .slice A n c] 24) 0 none 0 0)
  have HSZ : Hid ((Tryd.prog.info? 5).map (·.size) = some 1) := Lib.hid (by rw [hi]; simp [hz1])
  have HLV : Hid ((vb xs).length = Nat.min n n) := Lib.hid (by rw [vb_length, HL.out]; exact (Nat.min_self n).symm)
  have HRF := Lib.hid (fun W (h : Below w.heap.size w W) (h0 : 0 < (vb xs).length) => (HR.out.below h).src (by rw [vb_length, HL.out] at h0; exact h0))
  go_enter Tryd.func46, Tryd.ntmps46
  go_wp2_with (first
    | (refine wpList_make_full _ rfl (.tmp 6) (.tmp 6) 22 rfl (w.heap.size + 2) 5 i0 (.int .u8 0) 1 Tryd.underlying22 hi hz0 hz1 .i64 .i64 _ _ n rfl rfl rfl rfl (by rw [hz2]; omega) (by unfold maxLen; omega) (by simp) ?_; intro w1 hown hg; have BL1 := Lib.hid (grownBy_none hg); have HBW := Lib.hid (s_chain (below_a2 _ _ _) BL1.out); have X0 := Lib.hid (HB0.out.below BL1.out); have X1 := Lib.hid (HB1.out.below BL1.out); obtain ⟨l0, c00, c01, f00, f01⟩ := X0.out.parts; obtain ⟨l1, c10, c11, f10, f11⟩ := X1.out.parts; generalize (madeCells (Value.int IntKind.u8 0).cells (n * 1)).toList = zs at hown; have HZL := Lib.hid hown.1; have HOW : Hid (w1.heap[w.heap.size + 1 + 1]? = some (.cells zs.toArray 5 (0, 0))) := Lib.hid (by have h9 := row_blk hown; simpa using h9); clear hown hg)
    | (with_reducible refine wpList_copy_splice rfl (.tmp 8) (.tmp 10) 22 22 rfl 5 Tryd.underlying22 HSZ.out _ _ _ _ _ _ rfl rfl (w.heap.size + 1 + 1) 0 zs 5 HOW.out (vb xs) HLV.out (fun h => ⟨rfl, HRF.out _ HBW.out h⟩) ?fit (vb_oneCell xs) (w.heap.size + 2) w1 (Below.refl _ _) (by omega) ?_; (case fit => have h8 := HZL.out; have h9 := HLV.out; simp only [Nat.min_self] at h9; omega); intro w2 HG2 hb2; have HB2 := Lib.hid hb2; have Y0 := Lib.hid (X0.out.keep (hb2.block _ (by omega))); have Y1 := Lib.hid (X1.out.keep (hb2.block _ (by omega))); clear l0 c00 c01 l1 c10 c11 f00 f01 f10 f11 hb2; obtain ⟨l0, c00, c01, f00, f01⟩ := Y0.out.parts; obtain ⟨l1, c10, c11, f10, f11⟩ := Y1.out.parts))
  refine bodyPost_ret (v := .agg #[.int .i64 N, .slice (some ⟨w.heap.size + 1 + 1, 0, none⟩) n n]) (by simp [results, Tryd.results46, go_sem, c10, c11]) rfl ?_
  have HSP : splice zs 0 (vb xs) = vb xs := by
    have h1 := HZL.out
    have h2 := HL.out
    unfold splice
    rw [List.take_zero, List.nil_append, List.drop_eq_nil_of_le (by rw [vb_length]; omega), List.append_nil]
  have hrow := HG2.out
  rw [HSP] at hrow
  have e := HL.out
  subst e
  refine ⟨_, _, rfl, ?_, below_set2 (HBW.out.trans (HB2.out.mono (by omega))) (by omega) _ _⟩
  exact own_monoG (own_set2 (lo := w.heap.size + 2) (blk_row hrow (by omega) (vb_length xs) (by unfold maxLen; omega)) (by omega) _ _) (by omega)
end Go.Proofs.YtbkchmkhaapmaaaDoor
