/- The numbers of edges at the vertices, as data; the contracts of the model's and the program's functions that count them. -/
import Derived.Test.YtpgnappddddlpaaDegsB
import Derived.Test.YtpgnappddddlpaaGraphS
namespace Go.Proofs.Ytpgnappddddlpaa
open Go.RowKit

set_option maxRecDepth 10000 in
set_option maxHeartbeats 4000000 in
theorem specIn (N : Int) (A : Option Addr) (n c : Nat) (es : List GE) (w : World) (hr : SlG w A n es) (hn : n ≤ 1048576) :
    Calls Try.prog 92 #[.agg #[.int .i64 N, .slice A n c]] w (MadeI w (degsOf GE.t N es)) := by
  obtain ⟨i0, hi, hz0, hz1, hz2⟩ := info_parts Try.infoInt
  have HEL := Lib.hid hr.len
  have HR := Lib.hid hr
  have CG := Lib.hid (fun W (h : Below w.heap.size w W) => specGraphOk N A n c es W (hr.below h) hn)
  clear hr
  go_enter Try.func92, Try.ntmps92
  go_wp2_with fail
  refine (CG.out _ (below_a1 _ _)).mono ?_
  rintro e w1 ⟨rfl, hb1⟩
  have X1 := Lib.hid ((NBox.new w N A n c 58).below hb1)
  have HB1 := Lib.hid (g_chain (below_a1 w (.cells #[.int .i64 N, .slice A n c] 58)) hb1)
  clear hb1
  obtain ⟨l0, x0, x1⟩ := X1.out
  cases hv : graphB N es with
  | false =>
    have HD : Hid (degsOf GE.t N es = []) := Lib.hid (by unfold degsOf; rw [hv]; rfl)
    go_wp2
    go_ret
    rw [HD.out]
    exact ⟨none, 0, 0, rfl, World.ownsRow_nil _ _ _ _, HB1.out⟩
  | true =>
    have HD : Hid (degsOf GE.t N es = degs GE.t N.toNat es) := Lib.hid (by unfold degsOf; rw [hv]; rfl)
    obtain ⟨h1, h2, h3, h4⟩ := graphB_iff hv
    have H4 := Lib.hid h4
    rw [HEL.out] at h3
    clear hv h4
    obtain ⟨M, rfl⟩ : ∃ M : Nat, N = (M : Int) := ⟨N.toNat, by omega⟩
    rw [Int.toNat_natCast] at HD
    go_wp2_with (refine wpList_make_full _ rfl (.tmp 10) (.tmp 10) 23 rfl w1.heap.size 3 i0 (.int .i64 0) 1 Try.underlying23 hi hz0 hz1 .i64 .i64 _ _ M rfl rfl rfl rfl (by rw [hz2]; omega) (by unfold maxLen; omega) (Nat.le_refl _) ?_; intro w2 hown hg; have hb2 : Below w1.heap.size w1 w2 := (Below.refl _ _).grown hg (Nat.le_refl _) (by simp); have X2 := Lib.hid (X1.out.below hb2); have HB2 := Lib.hid (g_chain HB1.out hb2); rw [made_zero M GE.t es] at hown; have HO2 := Lib.hid hown; clear hown hg hb2 l0 x0 x1; obtain ⟨l0, x0, x1⟩ := X2.out)
    have hg1 : w.heap.size < w1.heap.size := X1.out.lt
    go_loopw [15] (fun i wr => ∃ k : Nat, k ≤ n ∧ i = .int .i64 k ∧ Hid (NBox wr w.heap.size M A n c) ∧ Hid (Below w.heap.size w wr) ∧ Hid (wr.ownsRow w1.heap.size 3 1 (.slice (some ⟨w1.heap.size, 0, none⟩) M M) M (vi (degs GE.t M (es.take k))))) (fun i _ => n - (intOf i).toNat)
    case atStart => exact ⟨0, Nat.zero_le _, rfl, X2, HB2, HO2⟩
    case round =>
      clear X2 HB2 HO2 l0 x0 x1
      obtain ⟨k, hk, rfl, hx, hbel, hown⟩ := hrel
      by_cases hlt : k < n
      · obtain ⟨b, off, e, rfl, hbw, he, c0, c1, c2⟩ := HR.out.at_ hlt
        have c0 := (hbel.out.cell (p := ⟨b, off + k * 3, none⟩) hbw).trans c0
        have c1 := (hbel.out.cell (p := ⟨b, off + k * 3 + 1, none⟩) hbw).trans c1
        have c2 := (hbel.out.cell (p := ⟨b, off + k * 3 + 2, none⟩) hbw).trans c2
        have hh := edgeB_iff (H4.out e (List.mem_of_getElem? he.out))
        obtain ⟨F, T, W0⟩ := e
        simp only at hh c0 c1 c2
        obtain ⟨f, rfl⟩ : ∃ f : Nat, T = (f : Int) := ⟨Int.toNat T, by omega⟩
        have hfM : f < M := by omega
        obtain ⟨x, hx1, hx2, hx3⟩ := degs_at (key := GE.t) (es := es.take k) hfM
        have hx4 : x ≤ 400 := by have := List.length_take_le k es; rw [HEL.out] at *; omega
        have HST := Lib.hid (degs_step (key := GE.t) (M := M) he.out (f := f) rfl hx1)
        have HX1 := Lib.hid hx1
        have HA1 := Lib.hid (below_a1 wr (.cells #[.int .i64 F, .int .i64 (f : Int), .int .i64 W0] 145))
        have HOW := Lib.hid (own_below hown.out HA1.out)
        obtain ⟨l0, x0, x1⟩ := hx.out
        have hc0 : (wr.alloc (.cells #[.int .i64 F, .int .i64 (f : Int), .int .i64 W0] 145)).cell? ⟨w1.heap.size, f, none⟩ = some (.int .i64 x) := (HOW.out.cellAt f (by omega)).trans (by rw [vi_get, HX1.out]; first | done | rfl)
        have hf0 := HOW.out.frozenAt f
        have HS := Lib.hid (hown.out.stored f (.int .i64 (x + 1)))
        rw [← HST.out] at HS
        have hgl : w1.heap.size < wr.heap.size := (hown.out.lt w1.heap.size rfl).2
        have hgl2 : ¬ w1.heap.size = wr.heap.size := by omega
        clear hx1 hx3
        go_wp2
        go_roundw
        case rel =>
          refine ⟨k + 1, by omega, by go_num, Lib.hid ?_, Lib.hid ?_, Lib.hid ?_⟩
          · exact (hx.out.keep (by simp) (Below.heap_setCell wr ⟨w1.heap.size, f, none⟩ (.int .i64 (x + 1)) w.heap.size (by show w.heap.size ≠ w1.heap.size; omega))).alloc _
          · exact (hbel.out.setCell (p := ⟨w1.heap.size, f, none⟩) (by show w.heap.size ≤ w1.heap.size; omega) _).alloc (by simp; omega) _
          · exact own_below HS.out.1 (below_a1 _ _)
        case measure => simp [intOf]; omega
      · obtain rfl : k = n := by omega
        obtain ⟨l0, x0, x1⟩ := hx.out
        go_wp2
        go_ret
        rw [HD.out]
        have h := hown.out
        rw [List.take_of_length_le (by rw [HEL.out]; exact Nat.le_refl _)] at h
        exact ⟨_, _, _, rfl, own_monoG h (by omega), hbel.out⟩
end Go.Proofs.Ytpgnappddddlpaa
