/- The contract of the model's Cut. Condition: at most 2^20 edges. -/
import Derived.Test.YtpgnappddddlpaaCutMath
import Derived.Test.YtpgnappddddlpaaLawInts
import Derived.Test.YtpgnappddddlpaaDegs
namespace Go.Proofs.Ytpgnappddddlpaa
open Go.RowKit

theorem i_reads (w : World) (u : Value) (t : TypeId) (g : Nat) (hg : g = w.heap.size) : Reads (w.alloc (.cells #[u] t)) (g + 1) 1 (some ⟨g, 0, none⟩) 1 [u] := by
  subst hg
  refine ⟨rfl, fun _ => ⟨_, rfl, by simp, fun j x hj => ?_⟩⟩
  match j, hj with
  | 0, hj => simp at hj; subst hj; simp [Addr.add]
theorem i_built (w : World) : (w.alloc (.cells #[] 3)).ownsRow w.heap.size 3 1 (.slice (some ⟨w.heap.size, 0, none⟩) 0 0) 0 [] :=
  World.ownsRow_lit w #[] 0 (Nat.le_refl _) (by unfold maxLen; omega) rfl
theorem i_form {w : World} {base e size n : Nat} {v : Value} {xs : List Value} (h : w.ownsRow base e size v n xs) : ∃ A c, v = .slice A n c := by
  rcases h.2 with ⟨rfl, rfl⟩ | ⟨g, cap, _, rfl, _⟩
  · exact ⟨_, _, rfl⟩
  · exact ⟨_, _, rfl⟩
theorem i_one (x : Int) : ∀ u ∈ [Value.int .i64 x], u.oneCell' = true := by
  intro u hu
  simp at hu
  subst hu
  rfl
theorem vi_snoc (xs : List Int) (x : Int) : vi (xs ++ [x]) = vi xs ++ [.int .i64 x] := by rw [vi_append]; rfl
def MadeV (w : World) (xs : List Int) (e : Ending) (w' : World) : Prop :=
  ∃ A n c, e = .returned (.slice A n c) ∧ OwI w' w.heap.size A n c xs ∧ Below w.heap.size w w'

theorem cutR_no {N : Int} {es : List GE} {b : Int} (h : graphB N es = false ∨ b < 1 ∨ 400 < b) : cutR N es b = [] := by
  unfold cutR
  rw [if_neg]
  rintro ⟨h1, h2, h3⟩
  rcases h with h | h | h
  · rw [h1] at h; cases h
  · omega
  · omega
theorem cutR_yes {N : Int} {es : List GE} {b : Int} (h : graphB N es = true) (h1 : 1 ≤ b) (h2 : b ≤ 400) : cutR N es b = cutFrom b 0 (degsOf GE.t N es) := by
  unfold cutR degsOf
  rw [if_pos ⟨h, h1, h2⟩, if_pos h]

set_option maxRecDepth 10000 in
set_option maxHeartbeats 4000000 in
theorem specCut (N : Int) (A : Option Addr) (n c : Nat) (es : List GE) (b : Int) (w : World) (hr : SlG w A n es) (hn : n ≤ 1048576) :
    Calls Try.prog 50 #[.agg #[.int .i64 N, .slice A n c], .int .i64 b] w (MadeI w (cutR N es b)) := by
  obtain ⟨i0, hi, hz0, hz1, hz2⟩ := info_parts Try.infoInt
  have CG := Lib.hid (fun W (h : Below w.heap.size w W) => specGraphOk N A n c es W (hr.below h) hn)
  have CD := Lib.hid (fun W (h : Below w.heap.size w W) => specIn N A n c es W (hr.below h) hn)
  have HEL := Lib.hid hr.len
  obtain ⟨R, hR⟩ : ∃ R, cutR N es b = R := ⟨_, rfl⟩
  rw [hR]
  clear hr
  go_enter Try.func50, Try.ntmps50
  go_wp2_with fail
  refine (CG.out _ (below_a1 _ _)).mono ?_
  rintro e w1 ⟨rfl, hb1⟩
  have X1 := Lib.hid ((NBox.new w N A n c 58).below hb1)
  have HB1 := Lib.hid (g_chain (below_a1 w (.cells #[.int .i64 N, .slice A n c] 58)) hb1)
  clear hb1
  obtain ⟨l0, x0, x1⟩ := X1.out
  cases hv : graphB N es with
  | false =>
    have HD := Lib.hid (hR.symm.trans (cutR_no (.inl hv)))
    go_wp2
    go_ret
    rw [HD.out]
    exact ⟨none, 0, 0, rfl, World.ownsRow_nil _ _ _ _, HB1.out⟩
  | true =>
    by_cases hb1 : b < 1
    · have HD := Lib.hid (hR.symm.trans (cutR_no (.inr (.inl hb1))))
      go_wp2
      go_ret
      rw [HD.out]
      exact ⟨none, 0, 0, rfl, World.ownsRow_nil _ _ _ _, HB1.out⟩
    · by_cases hb2 : 400 < b
      · have HD := Lib.hid (hR.symm.trans (cutR_no (.inr (.inr hb2))))
        go_wp2
        go_ret
        rw [HD.out]
        exact ⟨none, 0, 0, rfl, World.ownsRow_nil _ _ _ _, HB1.out⟩
      · have HD := Lib.hid (hR.symm.trans (cutR_yes hv (b := b) (by omega) (by omega)))
        have hdl : (degsOf GE.t N es).length = N.toNat := by unfold degsOf; rw [if_pos hv, degs_len]
        obtain ⟨g1, g2, g3, _⟩ := graphB_iff hv
        have HBD : Hid (∀ x ∈ degsOf GE.t N es, 0 ≤ x ∧ x ≤ 400) := Lib.hid (fun x hx => by
          unfold degsOf at hx
          rw [if_pos hv] at hx
          have := degs_bound GE.t N.toNat es x hx
          omega)
        generalize degsOf GE.t N es = ds at CD hdl HBD HD
        obtain ⟨M, rfl⟩ : ∃ M : Nat, N = (M : Int) := ⟨N.toNat, by omega⟩
        rw [Int.toNat_natCast] at hdl
        have HDL := Lib.hid hdl
        have hM : M ≤ 150 := by omega
        clear hv g1 g2 g3 CG hdl hR
        have HB2 := Lib.hid (g_chain HB1.out (below_a1 w1 (.cells #[] 3)))
        have hg1 : w.heap.size < w1.heap.size := X1.out.lt
        go_wp2_with fail
        refine (CD.out _ HB2.out).mono ?_
        rintro e w2 ⟨A2, m2, c2, rfl, hod, hb2⟩
        obtain rfl : m2 = M := by have := hod.cnt; rw [HDL.out] at this; exact this
        have X2 := Lib.hid ((X1.out.below (below_a1 w1 (.cells #[] 3))).below hb2)
        have HB3 := Lib.hid (g_chain HB2.out hb2)
        have D2 := Lib.hid hod
        have O2 := Lib.hid (own_below (own_monoG (lo' := w.heap.size + 1) (i_built w1) hg1) hb2)
        clear hod hb2 HB2 l0 x0 x1
        have NE2 : Hid (∀ bb off sp, A2 = some ⟨bb, off, sp⟩ → some bb ≠ (Value.slice (some ⟨w1.heap.size, 0, none⟩) 0 0).ownBlock) := Lib.hid (fun bb off sp hA he => by
          have h1 := (D2.out.lt bb (by rw [hA]; rfl)).1
          simp [Value.ownBlock] at he
          simp at h1
          omega)
        obtain ⟨lo2, hlo2⟩ : ∃ lo2, lo2 = (w1.alloc (.cells #[] 3)).heap.size := ⟨_, rfl⟩
        rw [← hlo2] at D2
        clear hlo2
        go_wp2
        go_loopw [5, 6, 24] (fun v s i wr => ∃ (k : Nat) (acc : List Int) (q : Int), k ≤ m2 ∧ i = .int .i64 k ∧ s = .int .i64 q ∧ Hid (CutAt b ds k acc q) ∧ Hid (wr.ownsRow (w.heap.size + 1) 3 1 v acc.length (vi acc)) ∧ Hid (OwI wr lo2 A2 m2 c2 ds) ∧ Hid (∀ bb off sp, A2 = some ⟨bb, off, sp⟩ → some bb ≠ v.ownBlock) ∧ Hid (NBox wr w.heap.size m2 A n c) ∧ Hid (Below w.heap.size w wr)) (fun _ _ i _ => m2 - (intOf i).toNat)
        case atStart => exact ⟨0, [], 0, Nat.zero_le _, rfl, rfl, Lib.hid (CutAt.start b ds), O2, D2, NE2, X2, HB3⟩
        case round =>
          clear X2 HB3 O2 D2 NE2
          obtain ⟨k, acc, q, hk, rfl, rfl, hcut, hown, hdeg, hne, hx, hbel⟩ := hrel
          have hq0 := hcut.out.lo
          have hq1 := hcut.out.hi
          have hal := hcut.out.len
          by_cases hlt : k < m2
          · obtain ⟨bb, off, x, rfl, hbw, hd, hc⟩ := hdeg.out.rd.at_ hlt
            have hx2 := HBD.out x (List.mem_of_getElem? hd.out)
            rcases Nat.eq_zero_or_pos k with rfl | hk0
            · have HS := Lib.hid (hcut.out.one hd.out hx2.1 hx2.2)
              have ha0 : acc = [] ∧ q = 0 := hcut.out.first rfl
              obtain ⟨rfl, rfl⟩ := ha0
              clear hcut
              simp only [Nat.add_zero] at hc
              go_wp2
              go_roundw
              case rel => exact ⟨1, [], x, by omega, by go_num, by go_num, HS, hown, hdeg, hne, hx, hbel⟩
              case measure => simp [intOf]; omega
            · have hkp : (0 : Int) < (k : Int) := by omega
              by_cases hbq : b < q + x
              · have HS := Lib.hid (hcut.out.new hk0 hd.out hx2.1 hx2.2 hbq)
                clear hcut
                go_wp2_with (at_builtin; refine wpList_append_any _ rfl (.tmp 38) (.tmp 40) 23 rfl (w.heap.size + 1) 3 i0 _ 1 8 Try.underlying23 hi hz0 hz1 hz2 rfl (by omega) _ acc.length (vi acc) rfl (hown.out.alloc _) (wr.heap.size + 1) (some ⟨wr.heap.size, 0, none⟩) 1 1 [.int .i64 k] rfl (i_reads _ _ _ _ rfl) (i_one _) (by simp only [maxLen]; omega) (by omega) (by have := hx.out.lt; simp; omega) ?_; intro v3 w3 hown3 hg3 hat3)
                go_roundw
                case rel => exact ⟨k + 1, acc ++ [(k : Int)], x, by omega, by go_num, by go_num, HS, Lib.hid (by rw [vi_snoc, List.length_append]; exact hown3), Lib.hid (own_other (hdeg.out.below (below_a1 _ _)) hg3 hne.out), Lib.hid (fun b1 o1 s1 h1 h2 => by
                  rcases hat3 with h3 | h3
                  · rw [h3] at h2; exact hne.out b1 o1 s1 h1 h2
                  · rw [h3] at h2; simp at h1 h2; omega), Lib.hid ((hx.out.below (below_a1 _ _)).keep hg3.size (hg3.block _ (hx.out.below (below_a1 _ _)).lt (fun hh => by
                    have := (hown.out.lt _ hh.symm).1
                    omega))), Lib.hid ((g_chain hbel.out (below_a1 _ _)).grown hg3 (by have := hbel.out.size; simp; omega) (fun j hj => by have := (hown.out.lt j hj).1; omega))⟩
                case measure => simp [intOf]; omega
              · have HS := Lib.hid (hcut.out.same hk0 hd.out hx2.1 hx2.2 (by omega))
                clear hcut
                go_wp2
                go_roundw
                case rel => exact ⟨k + 1, acc, q + x, by omega, by go_num, by go_num, HS, hown, hdeg, hne, hx, hbel⟩
                case measure => simp [intOf]; omega
          · obtain rfl : k = m2 := by omega
            have HC := Lib.hid (hcut.out.done HDL.out)
            obtain ⟨l0, x0, x1⟩ := hx.out
            obtain ⟨A3, c3, rfl⟩ := i_form hown.out
            clear hcut
            rcases Nat.eq_zero_or_pos k with rfl | hk0
            · have HC2 : Hid (cutFrom b 0 ds = acc) := Lib.hid (by rw [HC.out, if_pos rfl])
              go_wp2
              go_ret
              rw [HD.out, HC2.out]
              exact ⟨_, _, _, rfl, own_monoG hown.out (Nat.le_succ _), hbel.out⟩
            · have HC2 : Hid (cutFrom b 0 ds = acc ++ [(k : Int)]) := Lib.hid (by rw [HC.out, if_neg (by omega)])
              have hkp : (0 : Int) < (k : Int) := by omega
              go_wp2_with (at_builtin; refine wpList_append_any _ rfl (.tmp 49) (.tmp 52) 23 rfl (w.heap.size + 1) 3 i0 _ 1 8 Try.underlying23 hi hz0 hz1 hz2 rfl (by omega) _ acc.length (vi acc) rfl (hown.out.alloc _) (wr.heap.size + 1) (some ⟨wr.heap.size, 0, none⟩) 1 1 [.int .i64 k] rfl (i_reads _ _ _ _ rfl) (i_one _) (by simp only [maxLen]; omega) (by omega) (by have := hx.out.lt; simp; omega) ?_; intro v3 w3 hown3 hg3 hat3)
              obtain ⟨A4, c4, rfl⟩ := i_form hown3
              go_ret
              rw [HD.out, HC2.out]
              exact ⟨A4, _, c4, rfl, by unfold OwI; rw [vi_snoc]; exact own_monoG hown3 (Nat.le_succ _), (g_chain hbel.out (below_a1 _ _)).grown hg3 (by have := hbel.out.size; simp; omega) (fun j hj => by have := (hown.out.lt j hj).1; omega)⟩
end Go.Proofs.Ytpgnappddddlpaa
