/- The contract of the model's function that writes a graph's text. Condition: at most 2^20 edges. -/
import Derived.Test.YtmlfhjkogcabiaaDoorGrLine
namespace Go.Proofs.YtmlfhjkogcabiaaDoor
open Go.RowKit

def textG (N : Int) (es : List GE) : ByteArray := es.foldl (fun s e => s ++ joinK e 3 ++ nlS) (numS N ++ nlS)
def graphT (N : Int) (es : List GE) : ByteArray := if graphB N es then textG N es else ⟨#[]⟩
theorem textG_snoc (N : Int) (es : List GE) (e : GE) : textG N (es ++ [e]) = textG N es ++ joinK e 3 ++ nlS := by simp [textG]
theorem fold_size : ∀ (es : List GE) (s : ByteArray), (∀ e ∈ es, EdgeNum e) → (es.foldl (fun s e => s ++ joinK e 3 ++ nlS) s).size ≤ s.size + 51 * es.length
  | [], s, _ => by simp
  | e :: r, s, h => by
    rw [List.foldl_cons, List.length_cons]
    have h1 := fold_size r (s ++ joinK e 3 ++ nlS) (fun x hx => h x (List.mem_cons_of_mem _ hx))
    have h2 := joinK_size (h e (List.mem_cons_self ..)) 3
    have h3 : nlS.size = 1 := rfl
    rw [ByteArray.size_append, ByteArray.size_append] at h1
    omega
theorem textG_size {N : Int} {es : List GE} (hN : numOk' N) (h : ∀ e ∈ es, EdgeNum e) : (textG N es).size ≤ 17 + 51 * es.length := by
  have h1 := fold_size es (numS N ++ nlS) h
  have h2 := numS_size hN
  have h3 : nlS.size = 1 := rfl
  rw [ByteArray.size_append] at h1
  unfold textG
  omega
theorem edge_num {N : Int} {e : GE} (h : edgeB N e = true) (hN : N ≤ 150) : EdgeNum e := by
  have := edgeB_iff h
  unfold EdgeNum numOk'
  omega
theorem three_new (W : World) (a b c : Int) (t : TypeId) : SlI (W.alloc (.cells #[.int .i64 a, .int .i64 b, .int .i64 c] t)) (some ⟨W.heap.size, 0, none⟩) 3 [a, b, c] := by
  refine ⟨rfl, ⟨rfl, fun _ => ⟨W.heap.size, 0, rfl, by simp, fun j u hu => ?_⟩⟩⟩
  match j, hu with
  | 0, hu => simp [vi] at hu; subst hu; simp
  | 1, hu => simp [vi] at hu; subst hu; simp
  | 2, hu => simp [vi] at hu; subst hu; simp

set_option maxRecDepth 10000 in
set_option maxHeartbeats 2000000 in
theorem specGraphText (N : Int) (A : Option Addr) (n c : Nat) (es : List GE) (w : World) (hr : SlG w A n es) (hn : n ≤ 1048576) :
    Calls Tryd.prog 7 #[.agg #[.int .i64 N, .slice A n c]] w fun e w' => e = .returned (.string (graphT N es)) ∧ Below w.heap.size w w' := by
  have HEL := Lib.hid hr.len
  have HR := Lib.hid hr
  have CG := Lib.hid (fun W (h : Below w.heap.size w W) => specGraphOk N A n c es W (hr.below h) hn)
  clear hr
  go_enter Tryd.func7, Tryd.ntmps7
  go_wp2_with fail
  refine (CG.out _ (below_a1 _ _)).mono ?_
  rintro e w1 ⟨rfl, hb1⟩
  have X1 := Lib.hid ((NBox.new w N A n c 29).below hb1)
  have HB1 := Lib.hid (g_chain (below_a1 w (.cells #[.int .i64 N, .slice A n c] 29)) hb1)
  clear hb1
  obtain ⟨l0, x0, x1⟩ := X1.out
  cases hv : graphB N es with
  | false =>
    have HD : Hid (graphT N es = ⟨#[]⟩) := Lib.hid (by unfold graphT; rw [hv]; rfl)
    go_wp2
    go_ret
    rw [HD.out]
    exact ⟨rfl, HB1.out⟩
  | true =>
    have HD : Hid (graphT N es = textG N es) := Lib.hid (by unfold graphT; rw [hv]; rfl)
    obtain ⟨h1, h2, h3, h4⟩ := graphB_iff hv
    have hN : numOk' N := by unfold numOk'; omega
    have HE : Hid (∀ e ∈ es, EdgeNum e) := Lib.hid (fun e he => edge_num (h4 e he) h2)
    rw [HEL.out] at h3
    have CN := Lib.hid (fun W => numS_call hN W)
    have hs0 := numS_size hN
    have HSZ := Lib.hid (fun k => textG_size (es := es.take k) hN (fun e he => HE.out e (List.mem_of_mem_take he)))
    have HT0 : Hid (textG N (es.take 0) = numS N ++ nlS) := Lib.hid rfl
    have HTS := Lib.hid (fun k e (he : es[k]? = some e) => by
      have h := textG_snoc N (es.take k) e
      rw [← g_take es k e he] at h
      exact h)
    have HTF : Hid (textG N (es.take n) = textG N es) := Lib.hid (by rw [List.take_of_length_le (by rw [HEL.out]; exact Nat.le_refl _)])
    have HLK := Lib.hid (fun k => List.length_take_le k es)
    clear hv h4 hN
    have hnl : nlS.size = 1 := rfl
    go_wp2_with (go_at_call 21; refine (CN.out _).mono ?_; rintro e1 w2 ⟨rfl, hb2⟩; have X2 := Lib.hid (X1.out.below hb2); have HB2 := Lib.hid (g_chain HB1.out hb2); clear l0 x0 x1 hb2; obtain ⟨l0, x0, x1⟩ := X2.out)
    go_loopw [3, 16] (fun s i wr => ∃ k : Nat, k ≤ n ∧ i = .int .i64 k ∧ s = .string (textG N (es.take k)) ∧ Hid (Below w.heap.size w wr)) (fun _ i _ => n - (intOf i).toNat)
    case atStart => exact ⟨0, Nat.zero_le _, rfl, congrArg Value.string HT0.out.symm, HB2⟩
    case round =>
      clear X2 HB2 l0 x0 x1
      obtain ⟨k, hk, rfl, rfl, hbel⟩ := hrel
      by_cases hlt : k < n
      · obtain ⟨b, off, e, rfl, hbw, he, c0, c1, c2⟩ := HR.out.at_ hlt
        have c0 := (hbel.out.cell (p := ⟨b, off + k * 3, none⟩) hbw).trans c0
        have c1 := (hbel.out.cell (p := ⟨b, off + k * 3 + 1, none⟩) hbw).trans c1
        have c2 := (hbel.out.cell (p := ⟨b, off + k * 3 + 2, none⟩) hbw).trans c2
        have hen := HE.out e (List.mem_of_getElem? he.out)
        have HS1 := Lib.hid (HTS.out k e he.out)
        have CL := Lib.hid (fun W g (h : SlI W (some ⟨g, 0, none⟩) 3 [e.f, e.t, e.w]) => specLine e hen (some ⟨g, 0, none⟩) 3 W h)
        have hz1 := HSZ.out k
        have hz2 := HLK.out k
        have hz3 := joinK_size hen 3
        have hz4 : (textG N (es.take k)).size ≤ 40000 := by omega
        have H3 := Lib.hid (three_new (wr.alloc (.cells #[.int .i64 e.f, .int .i64 e.t, .int .i64 e.w] 42)) e.f e.t e.w 3)
        rw [World.size_alloc] at H3
        have HA := Lib.hid (below_a2 wr (.cells #[.int .i64 e.f, .int .i64 e.t, .int .i64 e.w] 42) (.cells #[.int .i64 e.f, .int .i64 e.t, .int .i64 e.w] 3))
        generalize joinK e 3 = L at CL HS1 hz3
        generalize textG N (es.take k) = J at HS1 hz4 ⊢
        clear hz1 hz2 hen he
        go_wp2_with (go_at_call 22; refine (CL.out _ _ H3.out).mono ?_; rintro e1 w3 ⟨rfl, hb3⟩)
        go_roundw
        case rel => exact ⟨k + 1, by omega, by go_num, congrArg Value.string HS1.out.symm, Lib.hid (g_chain hbel.out (g_chain HA.out hb3))⟩
        case measure => simp [intOf]; omega
      · obtain rfl : k = n := by omega
        go_wp2
        go_ret
        rw [HD.out, ← HTF.out]
        exact ⟨rfl, hbel.out⟩
end Go.Proofs.YtmlfhjkogcabiaaDoor
