/- The contract of the program's function that writes a graph's text, given that the library's table of powers of ten holds what its text lays. Condition: at most 2^20 edges. // A graph's text: the contract of the model's line of three numbers. Condition: each number is one of the document's numbers. // The contract of the model's function that writes a graph's text. Condition: at most 2^20 edges. // Plain mathematics: the degrees of a valid graph add up to its edges. -/
import Derived.Test.YtmbabbapcjphgaaDoorCA5
import Derived.Test.YtmbabbapcjphgaaDoorShelfBuild
import Derived.Deep.RegionWith
import Derived.Deep.RegionHeld3
import Derived.Test.YtmbabbapcjphgaaDoorCA2
import Derived.Test.YtmbabbapcjphgaaDoorCA1
namespace Go.Proofs.YtmbabbapcjphgaaDoor
open Go.RowKit

theorem strCells_append (a b : ByteArray) : Lib.strCells (a ++ b) = Lib.strCells a ++ Lib.strCells b := by
  unfold Lib.strCells
  rw [ByteArray.data_append, Array.toList_append, List.map_append]
theorem IsB.below {B b : Nat} {bs : List Value} {w w' : World} (h : IsB B b bs w) (hb : Below w.heap.size w w') : IsB B b bs w' := by
  have k : ∀ p, Lib.BuilderAt 80 5 B b p bs w → Lib.BuilderAt 80 5 B b p bs w' := by
    rintro p ⟨h1, v, h2, h3, h4⟩
    exact ⟨h1, v, (hb.block b (Array.getElem?_eq_some_iff.1 h2).1).trans h2, own_below h3 hb, h4⟩
  exact h.elim (fun h => .inl (k _ h)) (fun h => .inr (k _ h))
theorem IsB.lt {B b : Nat} {bs : List Value} {w : World} (h : IsB B b bs w) : b < w.heap.size := by
  rcases h with h | h
  · obtain ⟨_, v, h2, _⟩ := h
    exact (Array.getElem?_eq_some_iff.1 h2).1
  · obtain ⟨_, v, h2, _⟩ := h
    exact (Array.getElem?_eq_some_iff.1 h2).1
theorem heap_new' (w : World) (o : Obj) : (w.alloc o).heap[w.heap.size]? = some o := by
  have : (w.alloc o).heap = w.heap.push o := rfl
  rw [this]
  simp
theorem IsB.drew {B b : Nat} {bs : List Value} {w : World} (h : IsB B b bs w) : IsB B b bs w.drew := h
theorem IsB.new (w : World) : IsB w.heap.size w.heap.size [] (w.alloc (.cells #[.pointer none, .slice none 0 0] 80)) :=
  .inl ⟨Nat.le_refl _, .slice none 0 0, heap_new' w _, World.ownsRow_nil _ _ _ _, by simp [Value.ownBlock]⟩
/-- Three cells of an edge. -/
def TBox (w : World) (b : Nat) (e : GE) : Prop := w.heap[b]? = some (.cells #[.int .i64 e.f, .int .i64 e.t, .int .i64 e.w] 45 (0, 0))
theorem TBox.open' {w : World} {b : Nat} {e : GE} (h : TBox w b e) : b < w.heap.size ∧ w.cell? ⟨b, 0, none⟩ = some (.int .i64 e.f) ∧ w.cell? ⟨b, 1, none⟩ = some (.int .i64 e.t) ∧ w.cell? ⟨b, 2, none⟩ = some (.int .i64 e.w) :=
  ⟨(Array.getElem?_eq_some_iff.1 h).1, by rw [Lib.cell_of_heap h]; rfl, by rw [Lib.cell_of_heap h]; rfl, by rw [Lib.cell_of_heap h]; rfl⟩
theorem TBox.below {w w' : World} {b : Nat} {e : GE} (h : TBox w b e) (hb : Below w.heap.size w w') : TBox w' b e := (hb.block b (Array.getElem?_eq_some_iff.1 h).1).trans h
theorem TBox.drew {w : World} {b : Nat} {e : GE} (h : TBox w b e) : TBox w.drew b e := h
theorem TBox.new (w : World) (e : GE) : TBox (w.alloc (.cells #[.int .i64 e.f, .int .i64 e.t, .int .i64 e.w] 45)) w.heap.size e := heap_new' w _
theorem numI_call {n : Int} (h : numOk' n) (w : World) (ht : Pow10 w) : Calls Tryd.prog 34 #[.int .i64 n] w fun e w' => e = .returned (.string (numS n)) ∧ Below w.heap.size w w' := by
  unfold numOk' at h
  obtain ⟨m, rfl⟩ : ∃ m : Nat, n = (m : Int) := ⟨n.toNat, by omega⟩
  exact implText_yes m w (by omega) ht
theorem line_eq (e : GE) : joinK e 3 ++ nlS = numS e.f ++ spS ++ numS e.t ++ spS ++ numS e.w ++ nlS := by
  show ⟨#[]⟩ ++ numS e.f ++ spS ++ numS e.t ++ spS ++ numS e.w ++ nlS = _
  have : (⟨#[]⟩ : ByteArray) ++ numS e.f = numS e.f := ByteArray.empty_append
  rw [this]

set_option maxRecDepth 100000 in
set_option maxHeartbeats 8000000 in
theorem implGraphText (N : Int) (A : Option Addr) (n c : Nat) (es : List GE) (w : World) (hr : SlG w A n es) (hn : n ≤ 1048576) (ht : Pow10 w) :
    Calls Tryd.prog 11 #[.agg #[.int .i64 N, .slice A n c]] w fun e w' => e = .returned (.string (graphT N es)) ∧ Below w.heap.size w w' := by
  have HEL := Lib.hid hr.len
  have HR := Lib.hid hr
  have HT := Lib.hid ht
  have CG := Lib.hid (fun W (h : Below w.heap.size w W) => implGraphOk N A n c es W (hr.below h) hn)
  obtain ⟨R, hR⟩ : ∃ R, graphT N es = R := ⟨_, rfl⟩
  rw [hR]
  clear hr ht
  go_enter Tryd.func11, Tryd.ntmps11
  go_wp2_with fail
  refine (CG.out _ (below_a1 _ _)).mono ?_
  rintro e w1 ⟨rfl, hb1⟩
  have X1 := Lib.hid ((NBox.new w N A n c 25).below hb1)
  have HB1 := Lib.hid (g_chain (below_a1 w (.cells #[.int .i64 N, .slice A n c] 25)) hb1)
  clear hb1
  obtain ⟨l0, x0, x1⟩ := X1.out
  cases hv : graphB N es with
  | false =>
    have HD : Hid (R = ⟨#[]⟩) := Lib.hid (by rw [← hR]; unfold graphT; rw [hv]; rfl)
    go_wp2
    go_ret
    rw [HD.out]
    exact ⟨rfl, HB1.out⟩
  | true =>
    have HD : Hid (R = textG N es) := Lib.hid (by rw [← hR]; unfold graphT; rw [hv]; rfl)
    obtain ⟨h1, h2, h3, h4⟩ := graphB_iff hv
    have hN : numOk' N := by unfold numOk'; omega
    have HE : Hid (∀ e ∈ es, EdgeNum e) := Lib.hid (fun e he => edge_num (h4 e he) h2)
    rw [HEL.out] at h3
    have CN := Lib.hid (fun W h => numI_call hN W h)
    have hs0 := numS_size hN
    have HSZ := Lib.hid (fun k => textG_size (es := es.take k) hN (fun e he => HE.out e (List.mem_of_mem_take he)))
    have HT0 : Hid (textG N (es.take 0) = numS N ++ nlS) := Lib.hid rfl
    have HTS := Lib.hid (fun k e (he : es[k]? = some e) => by
      have h := textG_snoc N (es.take k) e
      rw [← g_take es k e he, ByteArray.append_assoc, line_eq] at h
      exact h)
    have HTF : Hid (textG N (es.take n) = textG N es) := Lib.hid (by rw [List.take_of_length_le (by rw [HEL.out]; exact Nat.le_refl _)])
    have HLK := Lib.hid (fun k => List.length_take_le k es)
    clear hv h4 hN hR CG
    have hnl : ({ data := #[10] } : ByteArray).size = 1 := rfl
    have hsl : ({ data := #[32] } : ByteArray).size = 1 := rfl
    have X2 := Lib.hid (X1.out.below (below_a1 w1 (.cells #[.pointer none, .slice none 0 0] 80)))
    have HB2 := Lib.hid (g_chain HB1.out (below_a1 w1 (.cells #[.pointer none, .slice none 0 0] 80)))
    have I2 := Lib.hid (IsB.new w1)
    have hw1 : w.heap.size < w1.heap.size := X1.out.lt
    go_wp2_with fail
    refine (CN.out _ (HT.out.below HB2.out)).mono ?_
    rintro e w3 ⟨rfl, hb3⟩
    have X3 := Lib.hid (X2.out.below hb3)
    have HB3 := Lib.hid (g_chain HB2.out hb3)
    have I3 := Lib.hid (I2.out.below hb3)
    have hl3 : w1.heap.size ≤ w3.heap.size := by have := hb3.size; simp at this; omega
    clear hb3 l0 x0 x1
    go_wp2_with fail
    refine (write_any _ _ _ _ _ I3.out (by rw [ByteArray.size_append, hnl]; simp; omega) hl3).mono ?_
    rintro e w4 ⟨rfl, hi4, hb4, _⟩
    rw [List.nil_append] at hi4
    have I4 := Lib.hid hi4
    have HB4 : Hid (Below w.heap.size w w4) := Lib.hid (HB3.out.trans (hb4.mono (Nat.le_of_lt hw1)))
    have hl4 : w1.heap.size ≤ w4.heap.size := Nat.le_trans hl3 hb4.size
    have X4 : Hid (NBox w4 w.heap.size N A n c) := Lib.hid (X3.out.keep hb4.size (hb4.block _ hw1))
    clear hi4 hb4 X2 X3 I2 I3 HB2 HB3
    obtain ⟨l0, x0, x1⟩ := X4.out
    go_wp2
    go_loopw [17] (fun i wr => ∃ k : Nat, k ≤ n ∧ i = .int .i64 k ∧ Hid (IsB w1.heap.size w1.heap.size (Lib.strCells (textG N (es.take k))) wr) ∧ Hid (Below w.heap.size w wr) ∧ w1.heap.size ≤ wr.heap.size) (fun i _ => n - (intOf i).toNat)
    case atStart => exact ⟨0, Nat.zero_le _, rfl, by rw [HT0.out]; exact I4, HB4, hl4⟩
    case round =>
      clear X4 HB4 I4 l0 x0 x1 hl4
      obtain ⟨k, hk, rfl, hib, hbel, hl5⟩ := hrel
      by_cases hlt : k < n
      · obtain ⟨b, off, e, rfl, hbw, he, c0, c1, c2⟩ := HR.out.at_ hlt
        have c0 := (hbel.out.cell (p := ⟨b, off + k * 3, none⟩) hbw).trans c0
        have c1 := (hbel.out.cell (p := ⟨b, off + k * 3 + 1, none⟩) hbw).trans c1
        have c2 := (hbel.out.cell (p := ⟨b, off + k * 3 + 2, none⟩) hbw).trans c2
        have hen := HE.out e (List.mem_of_getElem? he.out)
        have HS1 := Lib.hid (HTS.out k e he.out)
        have hz1 := HSZ.out k
        have hz2 := HLK.out k
        have hz4 : (textG N (es.take k)).size ≤ 40000 := by omega
        have hs1 := numS_size hen.1
        have hs2 := numS_size hen.2.1
        have hs3 := numS_size hen.2.2
        have CF := Lib.hid (fun W (h : Below w.heap.size w W) => numI_call hen.1 W (HT.out.below h))
        have CT := Lib.hid (fun W (h : Below w.heap.size w W) => numI_call hen.2.1 W (HT.out.below h))
        have CW := Lib.hid (fun W (h : Below w.heap.size w W) => numI_call hen.2.2 W (HT.out.below h))
        generalize numS e.f = F at CF HS1 hs1
        generalize numS e.t = T at CT HS1 hs2
        generalize numS e.w = L at CW HS1 hs3
        generalize textG N (es.take k) = J at HS1 hz4 hib
        have hjs : (Lib.strCells J).length ≤ 40000 := by rw [Lib.strCells_length]; exact hz4
        have hall : (F ++ { data := #[32] } ++ T ++ { data := #[32] } ++ L ++ { data := #[10] }).size ≤ 60 := by
          rw [ByteArray.size_append, ByteArray.size_append, ByteArray.size_append, ByteArray.size_append, ByteArray.size_append, hnl, hsl]
          omega
        have HA := Lib.hid hall
        have CV := Lib.hid (fun W (h : IsB w1.heap.size w1.heap.size (Lib.strCells J) W) (h2 : w1.heap.size ≤ W.heap.size) => write_any w1.heap.size w1.heap.size (Lib.strCells J) (F ++ { data := #[32] } ++ T ++ { data := #[32] } ++ L ++ { data := #[10] }) W h (by have := HA.out; omega) h2)
        have EB := Lib.hid (TBox.new wr e)
        obtain ⟨_, q0, q1, q2⟩ := EB.out.open'
        have hwb : wr.heap.size ≠ w1.heap.size := by have := hib.out.lt; omega
        have HB := Lib.hid (g_chain hbel.out (below_a1 wr (.cells #[.int .i64 e.f, .int .i64 e.t, .int .i64 e.w] 45)))
        have IB := Lib.hid (hib.out.below (below_a1 wr (.cells #[.int .i64 e.f, .int .i64 e.t, .int .i64 e.w] 45)))
        have hl6 : w1.heap.size ≤ (wr.alloc (.cells #[.int .i64 e.f, .int .i64 e.t, .int .i64 e.w] 45)).heap.size := by simp; omega
        have hkn : k + 1 ≤ n := hlt
        clear hz1 hz2 hen he hib hbel hl5 hall HE HSZ HT0 HTS HTF HLK HR HD HEL HT CN X1 HB1 hk h1 h2 h3 hs0 hlt
        go_wp2
        have n1 : (9223372036854775807 < F.size + 1) = False := eq_false (by omega)
        have n2 : (9223372036854775807 < F.size + 1 + T.size) = False := eq_false (by omega)
        have n3 : (9223372036854775807 < F.size + 1 + T.size + 1) = False := eq_false (by omega)
        have n4 : (9223372036854775807 < F.size + 1 + T.size + 1 + L.size) = False := eq_false (by omega)
        have n5 : (9223372036854775807 < F.size + 1 + T.size + 1 + L.size + 1) = False := eq_false (by omega)
        go_region_held3 (fun w' => w'.cell? ⟨wr.heap.size, 0, none⟩ = some (.int .i64 e.f) ∧ w'.cell? ⟨wr.heap.size, 1, none⟩ = some (.int .i64 e.t) ∧ w'.cell? ⟨wr.heap.size, 2, none⟩ = some (.int .i64 e.w)) (go_keep) (first
          | (go_at_call 34; ((with_reducible refine (CF.out _ (by first | exact HB.out | exact HB.out.drew | exact HB.out.drew.drew)).mono ?_)); rintro e1 wq ⟨rfl, hbq⟩; have EB := Lib.hid (by first | exact EB.out.below hbq | exact EB.out.drew.below hbq | exact EB.out.drew.drew.below hbq); have IB := Lib.hid (by first | exact IB.out.below hbq | exact IB.out.drew.below hbq | exact IB.out.drew.drew.below hbq); have HB := Lib.hid (by first | exact g_chain HB.out hbq | exact g_chain HB.out.drew hbq | exact g_chain HB.out.drew.drew hbq); have hl6 := Nat.le_trans hl6 hbq.size; obtain ⟨_, q0, q1, q2⟩ := EB.out.open'; clear hbq)
          | (go_at_call 34; ((with_reducible refine (CT.out _ (by first | exact HB.out | exact HB.out.drew | exact HB.out.drew.drew)).mono ?_)); rintro e1 wq ⟨rfl, hbq⟩; have EB := Lib.hid (by first | exact EB.out.below hbq | exact EB.out.drew.below hbq | exact EB.out.drew.drew.below hbq); have IB := Lib.hid (by first | exact IB.out.below hbq | exact IB.out.drew.below hbq | exact IB.out.drew.drew.below hbq); have HB := Lib.hid (by first | exact g_chain HB.out hbq | exact g_chain HB.out.drew hbq | exact g_chain HB.out.drew.drew hbq); have hl6 := Nat.le_trans hl6 hbq.size; obtain ⟨_, q0, q1, q2⟩ := EB.out.open'; clear hbq)
          | (go_at_call 34; ((with_reducible refine (CW.out _ (by first | exact HB.out | exact HB.out.drew | exact HB.out.drew.drew)).mono ?_)); rintro e1 wq ⟨rfl, hbq⟩; have EB := Lib.hid (by first | exact EB.out.below hbq | exact EB.out.drew.below hbq | exact EB.out.drew.drew.below hbq); have IB := Lib.hid (by first | exact IB.out.below hbq | exact IB.out.drew.below hbq | exact IB.out.drew.drew.below hbq); have HB := Lib.hid (by first | exact g_chain HB.out hbq | exact g_chain HB.out.drew hbq | exact g_chain HB.out.drew.drew hbq); have hl6 := Nat.le_trans hl6 hbq.size; obtain ⟨_, q0, q1, q2⟩ := EB.out.open'; clear hbq)
          | (go_at_call 33; refine (CV.out _ (by first | exact IB.out | exact IB.out.drew | exact IB.out.drew.drew) hl6).mono ?_; rintro e1 wz ⟨rfl, hiz, hbz, hkz⟩; obtain ⟨_, q0, q1, q2⟩ := TBox.open' (w := wz) ((hkz wr.heap.size _ _ _ EB.out (by decide) hwb).trans EB.out); clear hkz))
        all_goals
          have HIZ := Lib.hid hiz
          have HBZ := Lib.hid (by first | exact HB.out.trans (hbz.mono (Nat.le_of_lt hw1)) | exact HB.out.drew.trans (hbz.mono (Nat.le_of_lt hw1)) | exact HB.out.drew.drew.trans (hbz.mono (Nat.le_of_lt hw1)))
          have hlz := Nat.le_trans hl6 hbz.size
          clear hiz hbz
          go_wp2
          go_roundw
          case rel => exact ⟨k + 1, hkn, by go_num, Lib.hid (by rw [HS1.out, strCells_append]; exact HIZ.out), HBZ, hlz⟩
          case measure => simp [intOf]; omega
      · obtain rfl : k = n := by omega
        have hib2 := hib.out
        rw [HTF.out, ← HD.out] at hib2
        have CS := Lib.hid (Go.Proofs.Any.Builder_String_any Tryd.lays169 Tryd.Builder_Extra_169 w1.heap.size w1.heap.size R.data.toList wr hib2 hl5)
        go_wp2_with fail
        refine CS.out.mono ?_
        rintro e w9 ⟨rfl, hb9⟩
        go_wp2
        go_ret
        exact ⟨by first | rfl | simp, hbel.out.trans (hb9.mono (Nat.le_of_lt hw1))⟩
end Go.Proofs.YtmbabbapcjphgaaDoor
namespace Go.Proofs.YtmbabbapcjphgaaDoor
open Go.RowKit

set_option maxRecDepth 10000 in
set_option maxHeartbeats 1000000 in
theorem specLine (e : GE) (he : EdgeNum e) (A : Option Addr) (c : Nat) (w : World) (hr : SlI w A 3 [e.f, e.t, e.w]) :
    Calls Tryd.prog 38 #[.slice A 3 c] w fun r w' => r = .returned (.string (joinK e 3)) ∧ Below w.heap.size w w' := by
  have HR := Lib.hid hr
  have HE := Lib.hid he
  clear hr he
  have HZ := Lib.hid (fun k => joinK_size HE.out k)
  go_enter Tryd.func38, Tryd.ntmps38
  go_wp2
  go_loopw [3, 8] (fun s i wr => ∃ k : Nat, k ≤ 3 ∧ i = .int .i64 k ∧ s = .string (joinK e k) ∧ Hid (Below w.heap.size w wr)) (fun _ i _ => 3 - (intOf i).toNat)
  case atStart => exact ⟨0, by omega, rfl, rfl, Lib.hid (Below.refl _ _)⟩
  case round =>
    obtain ⟨k, hk, rfl, rfl, hbel⟩ := hrel
    by_cases hlt : k < 3
    · obtain ⟨b, off, x, rfl, hbw, hx, c0⟩ := HR.out.at_ hlt
      have c0 := (hbel.out.cell (p := ⟨b, off + k, none⟩) hbw).trans c0
      have hnx : numOk' x := by
        have h9 := hx.out
        have hE := HE.out
        match k, h9 with
        | 0, h9 => simp at h9; subst h9; exact hE.1
        | 1, h9 => simp at h9; subst h9; exact hE.2.1
        | 2, h9 => simp at h9; subst h9; exact hE.2.2
      have CN := Lib.hid (fun W => numS_call hnx W)
      have hs1 := numS_size hnx
      have hs2 := HZ.out k
      have HN : Hid (joinK e (k + 1) = if k = 0 then joinK e k ++ numS x else joinK e k ++ spS ++ numS x) := Lib.hid (by
        have h9 := hx.out
        match k, h9 with
        | 0, h9 => simp at h9; subst h9; rfl
        | 1, h9 => simp at h9; subst h9; rfl
        | 2, h9 => simp at h9; subst h9; rfl)
      generalize joinK e k = J at HN hs2
      generalize numS x = X at CN hs1 HN
      clear hnx hx
      by_cases hk0 : k = 0
      · have HJ : Hid (joinK e (k + 1) = J ++ X) := Lib.hid (by rw [HN.out, if_pos hk0])
        have hk1 : ¬ 0 < k := by omega
        have HK := Lib.hid hk0
        clear HN hk0
        go_wp2_with (go_at_call 37; refine (CN.out _).mono ?_; rintro e1 w1 ⟨rfl, hb1⟩)
        go_roundw
        case rel => exact ⟨k + 1, by omega, by go_num, congrArg Value.string HJ.out.symm, Lib.hid (g_chain hbel.out hb1)⟩
        case measure => simp [intOf]; omega
      · have HJ : Hid (joinK e (k + 1) = J ++ spS ++ X) := Lib.hid (by rw [HN.out, if_neg hk0])
        have hk1 : 0 < k := by omega
        clear HN hk0
        go_wp2_with (go_at_call 37; refine (CN.out _).mono ?_; rintro e1 w1 ⟨rfl, hb1⟩)
        go_roundw
        case rel => exact ⟨k + 1, by omega, by go_num, congrArg Value.string HJ.out.symm, Lib.hid (g_chain hbel.out hb1)⟩
        case measure => simp [intOf]; omega
    · obtain rfl : k = 3 := by omega
      go_wp2
      go_ret
      exact ⟨rfl, hbel.out⟩
end Go.Proofs.YtmbabbapcjphgaaDoor
namespace Go.Proofs.YtmbabbapcjphgaaDoor
open Go.RowKit

theorem three_new (W : World) (a b c : Int) (t : TypeId) : SlI (W.alloc (.cells #[.int .i64 a, .int .i64 b, .int .i64 c] t)) (some ⟨W.heap.size, 0, none⟩) 3 [a, b, c] := by
  refine ⟨rfl, ⟨rfl, fun _ => ⟨W.heap.size, 0, rfl, by simp, fun j u hu => ?_⟩⟩⟩
  match j, hu with
  | 0, hu => simp [vi] at hu; subst hu; simp
  | 1, hu => simp [vi] at hu; subst hu; simp
  | 2, hu => simp [vi] at hu; subst hu; simp

set_option maxRecDepth 10000 in
set_option maxHeartbeats 2000000 in
theorem specGraphText (N : Int) (A : Option Addr) (n c : Nat) (es : List GE) (w : World) (hr : SlG w A n es) (hn : n ≤ 1048576) :
    Calls Tryd.prog 12 #[.agg #[.int .i64 N, .slice A n c]] w fun e w' => e = .returned (.string (graphT N es)) ∧ Below w.heap.size w w' := by
  have HEL := Lib.hid hr.len
  have HR := Lib.hid hr
  have CG := Lib.hid (fun W (h : Below w.heap.size w W) => specGraphOk N A n c es W (hr.below h) hn)
  clear hr
  go_enter Tryd.func12, Tryd.ntmps12
  go_wp2_with fail
  refine (CG.out _ (below_a1 _ _)).mono ?_
  rintro e w1 ⟨rfl, hb1⟩
  have X1 := Lib.hid ((NBox.new w N A n c 25).below hb1)
  have HB1 := Lib.hid (g_chain (below_a1 w (.cells #[.int .i64 N, .slice A n c] 25)) hb1)
  clear hb1
  obtain ⟨l0, x0, x1⟩ := X1.out
  cases hv : graphB N es with
  | false =>
    have HD : Hid (graphT N es = ⟨#[]⟩) := Lib.hid (by unfold graphT; rw [hv]; rfl)
    go_wp2
    go_ret
    rw [HD.out]
    exact ⟨rfl, HB1.out⟩
  | true =>
    have HD : Hid (graphT N es = textG N es) := Lib.hid (by unfold graphT; rw [hv]; rfl)
    obtain ⟨h1, h2, h3, h4⟩ := graphB_iff hv
    have hN : numOk' N := by unfold numOk'; omega
    have HE : Hid (∀ e ∈ es, EdgeNum e) := Lib.hid (fun e he => edge_num (h4 e he) h2)
    rw [HEL.out] at h3
    have CN := Lib.hid (fun W => numS_call hN W)
    have hs0 := numS_size hN
    have HSZ := Lib.hid (fun k => textG_size (es := es.take k) hN (fun e he => HE.out e (List.mem_of_mem_take he)))
    have HT0 : Hid (textG N (es.take 0) = numS N ++ nlS) := Lib.hid rfl
    have HTS := Lib.hid (fun k e (he : es[k]? = some e) => by
      have h := textG_snoc N (es.take k) e
      rw [← g_take es k e he] at h
      exact h)
    have HTF : Hid (textG N (es.take n) = textG N es) := Lib.hid (by rw [List.take_of_length_le (by rw [HEL.out]; exact Nat.le_refl _)])
    have HLK := Lib.hid (fun k => List.length_take_le k es)
    clear hv h4 hN
    have hnl : nlS.size = 1 := rfl
    go_wp2_with (go_at_call 37; refine (CN.out _).mono ?_; rintro e1 w2 ⟨rfl, hb2⟩; have X2 := Lib.hid (X1.out.below hb2); have HB2 := Lib.hid (g_chain HB1.out hb2); clear l0 x0 x1 hb2; obtain ⟨l0, x0, x1⟩ := X2.out)
    go_loopw [3, 16] (fun s i wr => ∃ k : Nat, k ≤ n ∧ i = .int .i64 k ∧ s = .string (textG N (es.take k)) ∧ Hid (Below w.heap.size w wr)) (fun _ i _ => n - (intOf i).toNat)
    case atStart => exact ⟨0, Nat.zero_le _, rfl, congrArg Value.string HT0.out.symm, HB2⟩
    case round =>
      clear X2 HB2 l0 x0 x1
      obtain ⟨k, hk, rfl, rfl, hbel⟩ := hrel
      by_cases hlt : k < n
      · obtain ⟨b, off, e, rfl, hbw, he, c0, c1, c2⟩ := HR.out.at_ hlt
        have c0 := (hbel.out.cell (p := ⟨b, off + k * 3, none⟩) hbw).trans c0
        have c1 := (hbel.out.cell (p := ⟨b, off + k * 3 + 1, none⟩) hbw).trans c1
        have c2 := (hbel.out.cell (p := ⟨b, off + k * 3 + 2, none⟩) hbw).trans c2
        have hen := HE.out e (List.mem_of_getElem? he.out)
        have HS1 := Lib.hid (HTS.out k e he.out)
        have CL := Lib.hid (fun W g (h : SlI W (some ⟨g, 0, none⟩) 3 [e.f, e.t, e.w]) => specLine e hen (some ⟨g, 0, none⟩) 3 W h)
        have hz1 := HSZ.out k
        have hz2 := HLK.out k
        have hz3 := joinK_size hen 3
        have hz4 : (textG N (es.take k)).size ≤ 40000 := by omega
        have H3 := Lib.hid (three_new (wr.alloc (.cells #[.int .i64 e.f, .int .i64 e.t, .int .i64 e.w] 45)) e.f e.t e.w 3)
        rw [World.size_alloc] at H3
        have HA := Lib.hid (below_a2 wr (.cells #[.int .i64 e.f, .int .i64 e.t, .int .i64 e.w] 45) (.cells #[.int .i64 e.f, .int .i64 e.t, .int .i64 e.w] 3))
        generalize joinK e 3 = L at CL HS1 hz3
        generalize textG N (es.take k) = J at HS1 hz4 ⊢
        clear hz1 hz2 hen he
        go_wp2_with (go_at_call 38; refine (CL.out _ _ H3.out).mono ?_; rintro e1 w3 ⟨rfl, hb3⟩)
        go_roundw
        case rel => exact ⟨k + 1, by omega, by go_num, congrArg Value.string HS1.out.symm, Lib.hid (g_chain hbel.out (g_chain HA.out hb3))⟩
        case measure => simp [intOf]; omega
      · obtain rfl : k = n := by omega
        go_wp2
        go_ret
        rw [HD.out, ← HTF.out]
        exact ⟨rfl, hbel.out⟩
end Go.Proofs.YtmbabbapcjphgaaDoor
namespace Go.Proofs.YtmbabbapcjphgaaDoor

theorem sum_put : ∀ (l : List Int) (i : Nat) (v : Int) (hi : i < l.length), (l.set i v).sum = l.sum - l[i] + v
  | [], i, v, hi => by simp at hi
  | x :: r, 0, v, _ => by simp; omega
  | x :: r, i + 1, v, hi => by
    simp only [List.set_cons_succ, List.sum_cons, List.getElem_cons_succ]
    rw [sum_put r i v (by simpa using hi)]
    omega
theorem bump_sum (l : List Int) (i : Nat) (hi : i < l.length) : (bump l i).sum = l.sum + 1 := by
  unfold bump
  rw [sum_put l i _ hi, List.getD_eq_getElem?_getD, List.getElem?_eq_getElem hi]
  simp
  omega
theorem fold_sum (key : GE → Int) : ∀ (es : List GE) (l : List Int), (∀ e ∈ es, (key e).toNat < l.length) → (es.foldl (fun l e => bump l (key e).toNat) l).sum = l.sum + es.length
  | [], l, _ => by simp
  | e :: r, l, h => by
    rw [List.foldl_cons, fold_sum key r _ (fun x hx => by rw [bump_len]; exact h x (by simp [hx])), bump_sum l _ (h e (by simp)), List.length_cons]
    omega
theorem degs_sum (key : GE → Int) (hk : key = GE.f ∨ key = GE.t) {N : Int} {es : List GE} (h : graphB N es = true) : (degsOf key N es).sum = es.length := by
  unfold degsOf degs
  rw [if_pos h, fold_sum]
  · simp
  · intro e he
    have := edgeB_iff ((graphB_iff h).2.2.2 e he)
    rw [List.length_replicate]
    rcases hk with rfl | rfl <;> omega
theorem sum_take {l : List Int} {k : Nat} {x : Int} (h : l[k]? = some x) : (l.take (k + 1)).sum = (l.take k).sum + x := by
  obtain ⟨hk, rfl⟩ := List.getElem?_eq_some_iff.1 h
  rw [List.take_succ_eq_append_getElem hk, List.sum_append]
  simp
theorem sum_nonneg : ∀ (l : List Int), (∀ x ∈ l, 0 ≤ x) → 0 ≤ l.sum
  | [], _ => by simp
  | x :: r, h => by
    rw [List.sum_cons]
    have := sum_nonneg r (fun y hy => h y (by simp [hy]))
    have := h x (by simp)
    omega
theorem sum_take_le (l : List Int) (k : Nat) (h : ∀ x ∈ l, 0 ≤ x) : 0 ≤ (l.take k).sum ∧ (l.take k).sum ≤ l.sum := by
  have h1 := sum_nonneg (l.take k) (fun x hx => h x (List.mem_of_mem_take hx))
  have h2 := sum_nonneg (l.drop k) (fun x hx => h x (List.mem_of_mem_drop hx))
  have h3 : l.sum = (l.take k).sum + (l.drop k).sum := by rw [← List.sum_append, List.take_append_drop]
  omega
end Go.Proofs.YtmbabbapcjphgaaDoor
