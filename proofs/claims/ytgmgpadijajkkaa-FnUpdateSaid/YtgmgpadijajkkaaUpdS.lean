/- The contracts of the model's l10Value and Update. Condition: at most 2^20 views, each a number of 64 bits. -/
import Derived.Test.YtgmgpadijajkkaaUpdI
import Derived.Test.YtgmgpadijajkkaaToldS
import Derived.Test.YtgmgpadijajkkaaMostS
namespace Go.Proofs.Ytgmgpadijajkkaa
open Go.RowKit

set_option maxRecDepth 10000 in
set_option maxHeartbeats 4000000 in
theorem specValue (p s x : Int) (A : Option Addr) (n c : Nat) (es : List VE) (w : World) (hp : 1 ≤ p ∧ p ≤ 4) (hr : SlV w A n es) (hn : n ≤ 1048576) (hv : ∀ e ∈ es, 0 ≤ e.v ∧ e.v ≤ 1099511627776) :
    Calls Try.prog 39 #[.agg #[.int .i64 p, .int .i64 s], .int .i64 x, .slice A n c] w (fun e w' => e = .returned (.int .i64 (newVal p x es)) ∧ Below w.heap.size w w') := by
  have HR := Lib.hid hr
  have HL := Lib.hid hr.len
  have HV := Lib.hid hv
  clear hr hv
  have CM := Lib.hid (fun a b W => specMin a b W)
  have CA := Lib.hid (fun a b W => specAddCap a b W)
  have hp4 : p = 1 ∨ p = 2 ∨ p = 3 ∨ p = 4 := by omega
  clear hp
  rcases hp4 with rfl | rfl | rfl | rfl
  · have hq : newVal 1 x es = newRank es := by unfold newVal; simp
    rw [hq]
    have C := Lib.hid (fun W (h : Below w.heap.size w W) => specRank A n c es W (HR.out.below h) (by omega))
    clear hq CM CA
    go_enter Try.func39, Try.ntmps39
    go_wp2_with fail
    refine (C.out _ (below_a1 _ _)).mono ?_
    rintro e w1 ⟨rfl, hb⟩
    have HB := Lib.hid (g_chain (below_a1 _ _) hb)
    clear hb
    go_wp2
    go_ret
    exact ⟨rfl, HB.out⟩
  · have hq : newVal 2 x es = minAll x es := by unfold newVal; simp
    rw [hq]
    clear hq
    have X0 := Lib.hid (Blk.new w #[.int .i64 2, .int .i64 s] 24)
    have B0 := Lib.hid (below_a1 w (.cells #[.int .i64 2, .int .i64 s] 24))
    go_enter Try.func39, Try.ntmps39
    go_wp2
    go_loopw [1, 23] (fun v1 i wr => ∃ k : Nat, k ≤ n ∧ i = .int .i64 (k : Int) ∧ v1 = .int .i64 (minAll x (es.take k)) ∧ Hid (Below w.heap.size w wr) ∧ Hid (Blk wr w.heap.size #[.int .i64 2, .int .i64 s] 24)) (fun _ i _ => n - (intOf i).toNat)
    case atStart => exact ⟨0, Nat.zero_le _, rfl, rfl, B0, X0⟩
    case round =>
      clear X0 B0
      obtain ⟨k, hk, rfl, rfl, hbel, hX⟩ := hrel
      obtain ⟨q, hq⟩ : ∃ q, q = minAll x (es.take k) := ⟨_, rfl⟩
      simp only [← hq]
      have HS := Lib.hid hq
      clear hq
      by_cases hlt : k < n
      · skip
        obtain ⟨b, off, e, rfl, hbw, he, c0, c1, c2, c3⟩ := HR.out.at_ hlt
        have c0 := (hbel.out.cell (p := ⟨b, off + k * 4, none⟩) hbw).trans c0
        have c1 := (hbel.out.cell (p := ⟨b, off + k * 4 + 1, none⟩) hbw).trans c1
        have c2 := (hbel.out.cell (p := ⟨b, off + k * 4 + 2, none⟩) hbw).trans c2
        have c3 := (hbel.out.cell (p := ⟨b, off + k * 4 + 3, none⟩) hbw).trans c3
        have HN := Lib.hid (minAll_snoc x he.out)
        have HX := Lib.hid (hX.out.alloc (.cells #[.bool e.i, .bool e.o, .int .i64 e.w, .int .i64 e.v] 32))
        have hj0 := HX.out.cell (i := 0) rfl
        have C := Lib.hid (fun W => CM.out q e.v W)
        have HZ : Hid (minAll x (es.take (k + 1)) = min q e.v) := Lib.hid (by rw [HN.out, ← HS.out])
        generalize min q e.v = z at C HZ
        go_wp2_with fail
        refine (C.out _).mono ?_
        rintro e1 w1 ⟨rfl, rfl⟩
        go_wp2
        go_roundw
        case rel => exact ⟨k + 1, by omega, by go_num, g_val HZ.out.symm, Lib.hid (g_chain hbel.out (below_a1 _ _)), HX⟩
        case measure => simp [intOf]; omega
      · obtain rfl : k = n := by omega
        go_wp2
        go_ret
        exact ⟨g_int (by rw [HS.out, ← HL.out, List.take_length]), hbel.out⟩
  · have hq : newVal 3 x es = minPath x es := by unfold newVal; simp
    rw [hq]
    clear hq
    have X0 := Lib.hid (Blk.new w #[.int .i64 3, .int .i64 s] 24)
    have B0 := Lib.hid (below_a1 w (.cells #[.int .i64 3, .int .i64 s] 24))
    go_enter Try.func39, Try.ntmps39
    go_wp2
    go_loopw [1, 23] (fun v1 i wr => ∃ k : Nat, k ≤ n ∧ i = .int .i64 (k : Int) ∧ v1 = .int .i64 (minPath x (es.take k)) ∧ Hid (Below w.heap.size w wr) ∧ Hid (Blk wr w.heap.size #[.int .i64 3, .int .i64 s] 24)) (fun _ i _ => n - (intOf i).toNat)
    case atStart => exact ⟨0, Nat.zero_le _, rfl, rfl, B0, X0⟩
    case round =>
      clear X0 B0
      obtain ⟨k, hk, rfl, rfl, hbel, hX⟩ := hrel
      obtain ⟨q, hq⟩ : ∃ q, q = minPath x (es.take k) := ⟨_, rfl⟩
      simp only [← hq]
      have HS := Lib.hid hq
      clear hq
      by_cases hlt : k < n
      · skip
        obtain ⟨b, off, e, rfl, hbw, he, c0, c1, c2, c3⟩ := HR.out.at_ hlt
        have c0 := (hbel.out.cell (p := ⟨b, off + k * 4, none⟩) hbw).trans c0
        have c1 := (hbel.out.cell (p := ⟨b, off + k * 4 + 1, none⟩) hbw).trans c1
        have c2 := (hbel.out.cell (p := ⟨b, off + k * 4 + 2, none⟩) hbw).trans c2
        have c3 := (hbel.out.cell (p := ⟨b, off + k * 4 + 3, none⟩) hbw).trans c3
        have HN := Lib.hid (minPath_snoc x he.out)
        have HX := Lib.hid (hX.out.alloc (.cells #[.bool e.i, .bool e.o, .int .i64 e.w, .int .i64 e.v] 32))
        have hj0 := HX.out.cell (i := 0) rfl
        cases hi : e.i with
        | true =>
          rw [hi] at c0 HX hj0
          have C1 := Lib.hid (fun W => CA.out e.v e.w W)
          have C := Lib.hid (fun W => CM.out q (addC e.v e.w) W)
          have HZ : Hid (minPath x (es.take (k + 1)) = min q (addC e.v e.w)) := Lib.hid (by rw [HN.out, ← HS.out]; unfold pathStep; rw [hi]; rfl)
          generalize addC e.v e.w = y at C1 C HZ
          generalize min q y = z at C HZ
          go_wp2_with fail
          refine (C1.out _).mono ?_
          rintro e1 w1 ⟨rfl, rfl⟩
          go_wp2_with fail
          refine (C.out _).mono ?_
          rintro e1 w1 ⟨rfl, rfl⟩
          go_wp2
          go_roundw
          case rel => exact ⟨k + 1, by omega, by go_num, g_val HZ.out.symm, Lib.hid (g_chain hbel.out (below_a1 _ _)), HX⟩
          case measure => simp [intOf]; omega
        | false =>
          rw [hi] at c0 HX hj0
          have HZ : Hid (minPath x (es.take (k + 1)) = q) := Lib.hid (by rw [HN.out, ← HS.out]; unfold pathStep; rw [hi]; rfl)
          go_wp2
          go_roundw
          case rel => exact ⟨k + 1, by omega, by go_num, g_val HZ.out.symm, Lib.hid (g_chain hbel.out (below_a1 _ _)), HX⟩
          case measure => simp [intOf]; omega
      · obtain rfl : k = n := by omega
        go_wp2
        go_ret
        exact ⟨g_int (by rw [HS.out, ← HL.out, List.take_length]), hbel.out⟩
  · have hq : newVal 4 x es = mostR (told es) x := by unfold newVal; simp
    rw [hq]
    have C := Lib.hid (fun W (h : Below w.heap.size w W) => specTold A n c es W (HR.out.below h) hn HV.out)
    have C2 := Lib.hid (fun W B d (h : SlI W B (told es).length (told es)) => specMost B (told es).length d (told es) x W h (by have := told_len es; have := HL.out; omega))
    unfold MadeZ at C
    generalize told es = T at C C2 ⊢
    clear hq CM CA
    go_enter Try.func39, Try.ntmps39
    go_wp2_with fail
    refine (C.out _ (below_a1 _ _)).mono ?_
    rintro e w1 ⟨B, d, rfl, ho, hb⟩
    have HB := Lib.hid (g_chain (below_a1 _ _) hb)
    have HT := Lib.hid (SlI.of_own ho)
    clear hb ho
    go_wp2_with fail
    refine (C2.out _ _ _ HT.out).mono ?_
    rintro e w2 ⟨rfl, rfl⟩
    go_wp2
    go_ret
    exact ⟨rfl, HB.out⟩

set_option maxRecDepth 20000 in
set_option maxHeartbeats 8000000 in
theorem specUpdate (p s v x : Int) (A : Option Addr) (n c : Nat) (es : List VE) (w : World) (hr : SlV w A n es) (hn : n ≤ 1048576) :
    Calls Try.prog 11 #[.agg #[.int .i64 p, .int .i64 s], .int .i64 v, .int .i64 x, .slice A n c] w (MadeU w (updV p v x es) (updE p v x es)) := by
  obtain ⟨i0, hi, hz0, hz1, hz2⟩ := info_parts Try.infoInt
  have HR := Lib.hid hr
  have HL := Lib.hid hr.len
  clear hr
  have CV := Lib.hid (fun W => specVertex v W)
  have CL := Lib.hid (fun W (h : Below w.heap.size w W) => specViews A n c es W (HR.out.below h) (by omega))
  unfold GTell at CL
  by_cases hp1 : p < 1
  · skip
    have hno := upd_no (p := p) (v := v) (x := x) (es := es) (by unfold updB progB; simp; omega)
    rw [hno.1, hno.2]
    clear hno
    go_enter Try.func11, Try.ntmps11
    go_wp2
    go_ret2
    exact MadeU.no (below_a1 _ _)
  by_cases hp2 : 4 < p
  · skip
    have hno := upd_no (p := p) (v := v) (x := x) (es := es) (by unfold updB progB; simp; omega)
    rw [hno.1, hno.2]
    clear hno
    go_enter Try.func11, Try.ntmps11
    go_wp2
    go_ret2
    exact MadeU.no (below_a1 _ _)
  cases hv : vtxB v with
  | false =>
    rw [hv] at CV
    have hno := upd_no (p := p) (v := v) (x := x) (es := es) (by unfold updB; rw [hv]; simp)
    rw [hno.1, hno.2]
    clear hno
    go_enter Try.func11, Try.ntmps11
    go_wp2_with fail
    refine (CV.out _).mono ?_
    rintro e w1 ⟨rfl, rfl⟩
    go_wp2
    go_ret2
    exact MadeU.no (below_a1 _ _)
  | true =>
  rw [hv] at CV
  by_cases hx0 : x < 0
  · skip
    have hno := upd_no (p := p) (v := v) (x := x) (es := es) (by unfold updB valB; simp; omega)
    rw [hno.1, hno.2]
    clear hno
    go_enter Try.func11, Try.ntmps11
    go_wp2_with fail
    refine (CV.out _).mono ?_
    rintro e w1 ⟨rfl, rfl⟩
    go_wp2
    go_ret2
    exact MadeU.no (below_a1 _ _)
  by_cases hx1 : 1099511627776 < x
  · skip
    have hno := upd_no (p := p) (v := v) (x := x) (es := es) (by unfold updB valB; simp; omega)
    rw [hno.1, hno.2]
    clear hno
    go_enter Try.func11, Try.ntmps11
    go_wp2_with fail
    refine (CV.out _).mono ?_
    rintro e w1 ⟨rfl, rfl⟩
    go_wp2
    go_ret2
    exact MadeU.no (below_a1 _ _)
  have hxb : valB x = true := by unfold valB; simp; omega
  cases hl : viewsB es with
  | false =>
    rw [hl] at CL
    have hno := upd_no (p := p) (v := v) (x := x) (es := es) (by unfold updB; rw [hl]; simp)
    rw [hno.1, hno.2]
    clear hno
    go_enter Try.func11, Try.ntmps11
    go_wp2_with fail
    refine (CV.out _).mono ?_
    rintro e w1 ⟨rfl, rfl⟩
    go_wp2_with fail
    refine (CL.out _ (below_a1 _ _)).mono ?_
    rintro e w2 ⟨rfl, hb⟩
    have B2 := Lib.hid (g_chain (below_a1 w (.cells #[.int .i64 p, .int .i64 s] 24)) hb)
    have X2 := Lib.hid ((Blk.new w #[.int .i64 p, .int .i64 s] 24).below hb)
    clear hb
    go_wp2
    go_ret2
    exact MadeU.no B2.out
  | true =>
  rw [hl] at CL
  have hyes : updB p v x es = true := by unfold updB progB; rw [hv, hl, hxb]; simp; omega
  have HU := updB_is hyes
  have hy := upd_yes hyes
  rw [hy.1, hy.2]
  have HVV : Hid (∀ e ∈ es, 0 ≤ e.v ∧ e.v ≤ 1099511627776) := Lib.hid (fun e he => by have := VE.ok_lim (HU.2.2.2.2 e he); omega)
  have HNX := Lib.hid (newVal_lim (p := p) HU.2.2.1 HU.2.2.2.2)
  have HOP : Hid (∀ e ∈ es, e.o = true → 0 < outsN es) := Lib.hid (fun e he ho => outsN_pos he ho)
  have CN := Lib.hid (fun W (h : Below w.heap.size w W) => specValue p s x A n c es W HU.1 (HR.out.below h) hn HVV.out)
  have HP := Lib.hid HU.1
  clear hy hyes HU hv hl hxb
  generalize newVal p x es = next at CN HNX ⊢
  go_enter Try.func11, Try.ntmps11
  go_wp2_with fail
  refine (CV.out _).mono ?_
  rintro e w1 ⟨rfl, rfl⟩
  go_wp2_with fail
  refine (CL.out _ (below_a1 _ _)).mono ?_
  rintro e w2 ⟨rfl, hb⟩
  have B2 := Lib.hid (g_chain (below_a1 w (.cells #[.int .i64 p, .int .i64 s] 24)) hb)
  have X2 := Lib.hid ((Blk.new w #[.int .i64 p, .int .i64 s] 24).below hb)
  clear hb
  go_wp2
  go_loopw [10, 45] (fun o i wr => ∃ k : Nat, k ≤ n ∧ i = .int .i64 (k : Int) ∧ o = .int .i64 (outsN (es.take k) : Int) ∧ Hid (Below w.heap.size w wr) ∧ Hid (Blk wr w.heap.size #[.int .i64 p, .int .i64 s] 24)) (fun _ i _ => n - (intOf i).toNat)
  case atStart => exact ⟨0, Nat.zero_le _, rfl, rfl, B2, X2⟩
  case round =>
    clear B2 X2
    obtain ⟨k, hk, rfl, rfl, hbel, hX⟩ := hrel
    have HO := outsN_le (es.take k)
    rw [List.length_take] at HO
    obtain ⟨q, hq⟩ : ∃ q, q = outsN (es.take k) := ⟨_, rfl⟩
    rw [← hq] at HO
    simp only [← hq]
    have HS := Lib.hid hq
    have hs2 : q ≤ 2097152 := by omega
    clear hq HO
    by_cases hlt : k < n
    · skip
      obtain ⟨b, off, e, rfl, hbw, he, c0, c1, c2, c3⟩ := HR.out.at_ hlt
      have c0 := (hbel.out.cell (p := ⟨b, off + k * 4, none⟩) hbw).trans c0
      have c1 := (hbel.out.cell (p := ⟨b, off + k * 4 + 1, none⟩) hbw).trans c1
      have c2 := (hbel.out.cell (p := ⟨b, off + k * 4 + 2, none⟩) hbw).trans c2
      have c3 := (hbel.out.cell (p := ⟨b, off + k * 4 + 3, none⟩) hbw).trans c3
      have HN := Lib.hid (outsN_snoc he.out)
      have HX := Lib.hid (hX.out.alloc (.cells #[.bool e.i, .bool e.o, .int .i64 e.w, .int .i64 e.v] 32))
      cases hi9 : e.o with
      | true =>
        rw [hi9] at c1 HN HX
        go_wp2
        go_roundw
        case rel => exact ⟨k + 1, by omega, by go_num, g_val (by rw [HN.out, if_pos rfl, ← HS.out]; first | rfl | omega | (simp only [IntKind.wrap_i64]; omega)), Lib.hid (g_chain hbel.out (below_a1 _ _)), HX⟩
        case measure => simp [intOf]; omega
      | false =>
        rw [hi9] at c1 HN HX
        go_wp2
        go_roundw
        case rel => exact ⟨k + 1, by omega, by go_num, by rw [HN.out, if_neg (by simp), ← HS.out], Lib.hid (g_chain hbel.out (below_a1 _ _)), HX⟩
        case measure => simp [intOf]; omega
    · obtain rfl : k = n := by omega
      have HOT : Hid (q = outsN es) := Lib.hid (by rw [HS.out, ← HL.out, List.take_length])
      have hj0 := hX.out.cell (i := 0) rfl
      have hj1 := hX.out.cell (i := 1) rfl
      go_wp2_with fail
      refine (CN.out _ hbel.out).mono ?_
      rintro e w3 ⟨rfl, hb⟩
      have B3 := Lib.hid (g_chain hbel.out hb)
      have X3 := Lib.hid (hX.out.below hb)
      have HOP2 : Hid (∀ e ∈ es, e.o = true → 0 < q) := Lib.hid (by rw [HOT.out]; exact HOP.out)
      have CE := Lib.hid (fun (e : VE) (he : e ∈ es) W => edgeS p s e next q W HP.out HNX.out (HVV.out e he) (fun ho => HOP2.out e he ho))
      unfold VE.val at CE
      clear hb hj0 hj1 hX hbel HS HOP HOP2 HNX HVV CN hs2
      go_wp2
      go_loopw [14, 61] (fun o i wr => ∃ (j : Nat) (A1 : Option Addr) (c1 : Nat), j ≤ k ∧ i = .int .i64 (j : Int) ∧ o = .slice A1 ((es.take j).map (newEdge p next q)).length c1 ∧ Hid (wr.ownsRow w3.heap.size 3 1 (.slice A1 ((es.take j).map (newEdge p next q)).length c1) ((es.take j).map (newEdge p next q)).length (vi ((es.take j).map (newEdge p next q)))) ∧ Hid (Below w3.heap.size w3 wr)) (fun _ i _ => k - (intOf i).toNat)
      case atStart => exact ⟨0, some ⟨w3.heap.size, 0, none⟩, 0, Nat.zero_le _, rfl, rfl, Lib.hid (lab_built w3), Lib.hid (below_a1 _ _)⟩
      case round =>
        obtain ⟨j, A1, c1, hj, rfl, rfl, hown, hbel⟩ := hrel
        obtain ⟨ms, HMS⟩ : ∃ ms, Hid ((es.take j).map (newEdge p next q) = ms) := ⟨_, Lib.hid rfl⟩
        have hml : ms.length ≤ 2097152 := by rw [← HMS.out, List.length_map, List.length_take]; omega
        rw [HMS.out] at hown
        rw [HMS.out]
        by_cases hlj : j < k
        · obtain ⟨b, off, e, rfl, hbw, he, d0, d1, d2, d3⟩ := HR.out.at_ hlj
          have hb3 := B3.out.size
          have hbw3 : b < w3.heap.size := by omega
          have hw3 := hbel.out.size
          have d0 := ((hbel.out.cell (p := ⟨b, off + j * 4, none⟩) hbw3).trans (B3.out.cell (p := ⟨b, off + j * 4, none⟩) hbw)).trans d0
          have d1 := ((hbel.out.cell (p := ⟨b, off + j * 4 + 1, none⟩) hbw3).trans (B3.out.cell (p := ⟨b, off + j * 4 + 1, none⟩) hbw)).trans d1
          have d2 := ((hbel.out.cell (p := ⟨b, off + j * 4 + 2, none⟩) hbw3).trans (B3.out.cell (p := ⟨b, off + j * 4 + 2, none⟩) hbw)).trans d2
          have d3 := ((hbel.out.cell (p := ⟨b, off + j * 4 + 3, none⟩) hbw3).trans (B3.out.cell (p := ⟨b, off + j * 4 + 3, none⟩) hbw)).trans d3
          have XA := Lib.hid ((X3.out.below hbel.out).alloc (.cells #[.bool e.i, .bool e.o, .int .i64 e.w, .int .i64 e.v] 32))
          have hx0 := XA.out.cell (i := 0) rfl
          have hx1 := XA.out.cell (i := 1) rfl
          have C := Lib.hid (fun W => CE.out e (List.mem_of_getElem? he.out) W)
          have HSN : Hid ((es.take (j + 1)).map (newEdge p next q) = ms ++ [newEdge p next q e]) := Lib.hid (by rw [take_snoc he.out, List.map_append, HMS.out]; rfl)
          generalize newEdge p next q e = z at C HSN
          go_wp2_with fail
          refine (C.out _).mono ?_
          rintro e1 w4 ⟨rfl, hb⟩
          have B4 := Lib.hid (g_chain (below_a1 wr (.cells #[.bool e.i, .bool e.o, .int .i64 e.w, .int .i64 e.v] 32)) hb)
          have O4 := Lib.hid (own_below hown.out B4.out)
          have BB := Lib.hid (g_chain hbel.out B4.out)
          have hs4 := BB.out.size
          have O4x := Lib.hid (O4.out.alloc (.cells #[.int .i64 z] 3))
          clear hb C hx0 hx1 XA d0 d1 d2 d3
          go_wp2_with (at_builtin; refine wpList_append_any _ rfl (.tmp 65) (.tmp 71) _ rfl w3.heap.size 3 i0 _ 1 8 Try.underlying28 hi hz0 hz1 hz2 rfl (by omega) (.slice A1 ms.length c1) ms.length (vi ms) rfl O4x.out (w4.heap.size + 1) (some ⟨w4.heap.size, 0, none⟩) 1 1 [.int .i64 z] rfl (lab_reads _ _ _ _ (by simp)) (lab_one _) (by simp only [maxLen]; omega) (by omega) (by simp; omega) ?_)
          intro v5 w5 hown5 hg5 _
          obtain ⟨A5, c5, rfl⟩ := lab_form hown5
          obtain ⟨ms5, HM5⟩ : ∃ l, Hid (l = ms ++ [z]) := ⟨_, Lib.hid rfl⟩
          have hle5 : ms.length + 1 = ms5.length := by rw [HM5.out]; simp
          have O5 : Hid (w5.ownsRow w3.heap.size 3 1 (.slice A5 ms5.length c5) ms5.length (vi ms5)) := Lib.hid (by rw [HM5.out, lab_snoc, List.length_append]; exact hown5)
          have B5 : Hid (Below w3.heap.size w3 w5) := Lib.hid (lab_below (g_chain BB.out (below_a1 _ _)) O4x.out (by simp; omega) hg5)
          clear hown5 hg5
          rw [hle5]
          go_wp2
          go_roundw
          case rel => exact ⟨j + 1, A5, c5, by omega, by go_num, by rw [HSN.out, ← HM5.out], Lib.hid (by rw [HSN.out, ← HM5.out]; exact O5.out), B5⟩
          case measure => simp [intOf]; omega
        · obtain rfl : j = k := by omega
          have HT : Hid (ms = es.map (newEdge p next (outsN es))) := Lib.hid (by rw [← HMS.out, List.take_of_length_le (by rw [HL.out]; exact Nat.le_refl _), HOT.out])
          have HFIN : Hid (wr.ownsRow w.heap.size 3 1 (.slice A1 ms.length c1) ms.length (vi ms)) := Lib.hid (own_monoG hown.out B3.out.size)
          have HBF := Lib.hid (g_chain B3.out hbel.out)
          clear hown hbel
          go_wp2
          go_ret2
          exact ⟨A1, c1, by rw [← HT.out]; rfl, by rw [← HT.out]; exact HFIN.out, HBF.out⟩
end Go.Proofs.Ytgmgpadijajkkaa
