/- The contracts of the model's l10Value and Update. Condition: at most 2^20 views, each a number of 64 bits. // The contracts of the model's functions that ask for the worth of a vertex's bit and whether a set is valid. // The contract of the model's function that copies a set. // Copies of runs, the model's: l11Copy. Condition: at most 2^21 numbers or bytes. -/
import Derived.Test.YtlhcobkncceodaaGreatDoorKUpdI
import Derived.Test.YtlhcobkncceodaaGreatDoorCGG
import Derived.Test.YtlhcobkncceodaaGreatDoorCGC
import Derived.Test.YtlhcobkncceodaaGreatDoorCGA
import Derived.Test.YtlhcobkncceodaaGreatDoorCGD
namespace Go.Proofs.YtlhcobkncceodaaGreatDoor
open Go.RowKit

set_option maxRecDepth 10000 in
set_option maxHeartbeats 4000000 in
theorem specValue (p s x : Int) (A : Option Addr) (n c : Nat) (es : List VE) (w : World) (hp : 1 ≤ p ∧ p ≤ 4) (hr : SlV w A n es) (hn : n ≤ 1048576) (hv : ∀ e ∈ es, 0 ≤ e.v ∧ e.v ≤ 1099511627776) :
    Calls Tryz.prog 131 #[.agg #[.int .i64 p, .int .i64 s], .int .i64 x, .slice A n c] w (fun e w' => e = .returned (.int .i64 (newVal p x es)) ∧ Below w.heap.size w w') := by
  have HR := Lib.hid hr
  have HL := Lib.hid hr.len
  have HV := Lib.hid hv
  clear hr hv
  have CM := Lib.hid (fun a b W => specMin a b W)
  have CA := Lib.hid (fun a b W => specAddCap a b W)
  have hp4 : p = 1 ∨ p = 2 ∨ p = 3 ∨ p = 4 := by omega
  clear hp
  rcases hp4 with rfl | rfl | rfl | rfl
  · have hq : newVal 1 x es = newRank es := by unfold newVal; simp
    rw [hq]
    have C := Lib.hid (fun W (h : Below w.heap.size w W) => specRank A n c es W (HR.out.below h) (by omega))
    clear hq CM CA
    go_enter Tryz.func131, Tryz.ntmps131
    go_wp2_with fail
    refine (C.out _ (below_a1 _ _)).mono ?_
    rintro e w1 ⟨rfl, hb⟩
    have HB := Lib.hid (g_chain (below_a1 _ _) hb)
    clear hb
    go_wp2
    go_ret
    exact ⟨rfl, HB.out⟩
  · have hq : newVal 2 x es = minAll x es := by unfold newVal; simp
    rw [hq]
    clear hq
    have X0 := Lib.hid (Blk.new w #[.int .i64 2, .int .i64 s] 27)
    have B0 := Lib.hid (below_a1 w (.cells #[.int .i64 2, .int .i64 s] 27))
    go_enter Tryz.func131, Tryz.ntmps131
    go_wp2
    go_loopw [1, 23] (fun v1 i wr => ∃ k : Nat, k ≤ n ∧ i = .int .i64 (k : Int) ∧ v1 = .int .i64 (minAll x (es.take k)) ∧ Hid (Below w.heap.size w wr) ∧ Hid (Blk wr w.heap.size #[.int .i64 2, .int .i64 s] 27)) (fun _ i _ => n - (intOf i).toNat)
    case atStart => exact ⟨0, Nat.zero_le _, rfl, rfl, B0, X0⟩
    case round =>
      clear X0 B0
      obtain ⟨k, hk, rfl, rfl, hbel, hX⟩ := hrel
      obtain ⟨q, hq⟩ : ∃ q, q = minAll x (es.take k) := ⟨_, rfl⟩
      simp only [← hq]
      have HS := Lib.hid hq
      clear hq
      by_cases hlt : k < n
      · skip
        obtain ⟨b, off, e, rfl, hbw, he, c0, c1, c2, c3⟩ := HR.out.at_ hlt
        have c0 := (hbel.out.cell (p := ⟨b, off + k * 4, none⟩) hbw).trans c0
        have c1 := (hbel.out.cell (p := ⟨b, off + k * 4 + 1, none⟩) hbw).trans c1
        have c2 := (hbel.out.cell (p := ⟨b, off + k * 4 + 2, none⟩) hbw).trans c2
        have c3 := (hbel.out.cell (p := ⟨b, off + k * 4 + 3, none⟩) hbw).trans c3
        have HN := Lib.hid (minAll_snoc x he.out)
        have HX := Lib.hid (hX.out.alloc (.cells #[.bool e.i, .bool e.o, .int .i64 e.w, .int .i64 e.v] 93))
        have hj0 := HX.out.cell (i := 0) rfl
        have C := Lib.hid (fun W => CM.out q e.v W)
        have HZ : Hid (minAll x (es.take (k + 1)) = min q e.v) := Lib.hid (by rw [HN.out, ← HS.out])
        generalize min q e.v = z at C HZ
        go_wp2_with fail
        refine (C.out _).mono ?_
        rintro e1 w1 ⟨rfl, rfl⟩
        go_wp2
        go_roundw
        case rel => exact ⟨k + 1, by omega, by go_num, g_val HZ.out.symm, Lib.hid (g_chain hbel.out (below_a1 _ _)), HX⟩
        case measure => simp [intOf]; omega
      · obtain rfl : k = n := by omega
        go_wp2
        go_ret
        exact ⟨g_int (by rw [HS.out, ← HL.out, List.take_length]), hbel.out⟩
  · have hq : newVal 3 x es = minPath x es := by unfold newVal; simp
    rw [hq]
    clear hq
    have X0 := Lib.hid (Blk.new w #[.int .i64 3, .int .i64 s] 27)
    have B0 := Lib.hid (below_a1 w (.cells #[.int .i64 3, .int .i64 s] 27))
    go_enter Tryz.func131, Tryz.ntmps131
    go_wp2
    go_loopw [1, 23] (fun v1 i wr => ∃ k : Nat, k ≤ n ∧ i = .int .i64 (k : Int) ∧ v1 = .int .i64 (minPath x (es.take k)) ∧ Hid (Below w.heap.size w wr) ∧ Hid (Blk wr w.heap.size #[.int .i64 3, .int .i64 s] 27)) (fun _ i _ => n - (intOf i).toNat)
    case atStart => exact ⟨0, Nat.zero_le _, rfl, rfl, B0, X0⟩
    case round =>
      clear X0 B0
      obtain ⟨k, hk, rfl, rfl, hbel, hX⟩ := hrel
      obtain ⟨q, hq⟩ : ∃ q, q = minPath x (es.take k) := ⟨_, rfl⟩
      simp only [← hq]
      have HS := Lib.hid hq
      clear hq
      by_cases hlt : k < n
      · skip
        obtain ⟨b, off, e, rfl, hbw, he, c0, c1, c2, c3⟩ := HR.out.at_ hlt
        have c0 := (hbel.out.cell (p := ⟨b, off + k * 4, none⟩) hbw).trans c0
        have c1 := (hbel.out.cell (p := ⟨b, off + k * 4 + 1, none⟩) hbw).trans c1
        have c2 := (hbel.out.cell (p := ⟨b, off + k * 4 + 2, none⟩) hbw).trans c2
        have c3 := (hbel.out.cell (p := ⟨b, off + k * 4 + 3, none⟩) hbw).trans c3
        have HN := Lib.hid (minPath_snoc x he.out)
        have HX := Lib.hid (hX.out.alloc (.cells #[.bool e.i, .bool e.o, .int .i64 e.w, .int .i64 e.v] 93))
        have hj0 := HX.out.cell (i := 0) rfl
        cases hi : e.i with
        | true =>
          rw [hi] at c0 HX hj0
          have C1 := Lib.hid (fun W => CA.out e.v e.w W)
          have C := Lib.hid (fun W => CM.out q (addC e.v e.w) W)
          have HZ : Hid (minPath x (es.take (k + 1)) = min q (addC e.v e.w)) := Lib.hid (by rw [HN.out, ← HS.out]; unfold pathStep; rw [hi]; rfl)
          generalize addC e.v e.w = y at C1 C HZ
          generalize min q y = z at C HZ
          go_wp2_with fail
          refine (C1.out _).mono ?_
          rintro e1 w1 ⟨rfl, rfl⟩
          go_wp2_with fail
          refine (C.out _).mono ?_
          rintro e1 w1 ⟨rfl, rfl⟩
          go_wp2
          go_roundw
          case rel => exact ⟨k + 1, by omega, by go_num, g_val HZ.out.symm, Lib.hid (g_chain hbel.out (below_a1 _ _)), HX⟩
          case measure => simp [intOf]; omega
        | false =>
          rw [hi] at c0 HX hj0
          have HZ : Hid (minPath x (es.take (k + 1)) = q) := Lib.hid (by rw [HN.out, ← HS.out]; unfold pathStep; rw [hi]; rfl)
          go_wp2
          go_roundw
          case rel => exact ⟨k + 1, by omega, by go_num, g_val HZ.out.symm, Lib.hid (g_chain hbel.out (below_a1 _ _)), HX⟩
          case measure => simp [intOf]; omega
      · obtain rfl : k = n := by omega
        go_wp2
        go_ret
        exact ⟨g_int (by rw [HS.out, ← HL.out, List.take_length]), hbel.out⟩
  · have hq : newVal 4 x es = mostR (told es) x := by unfold newVal; simp
    rw [hq]
    have C := Lib.hid (fun W (h : Below w.heap.size w W) => specTold A n c es W (HR.out.below h) hn HV.out)
    have C2 := Lib.hid (fun W B d (h : SlI W B (told es).length (told es)) => specMost B (told es).length d (told es) x W h (by have := told_len es; have := HL.out; omega))
    unfold MadeZ at C
    generalize told es = T at C C2 ⊢
    clear hq CM CA
    go_enter Tryz.func131, Tryz.ntmps131
    go_wp2_with fail
    refine (C.out _ (below_a1 _ _)).mono ?_
    rintro e w1 ⟨B, d, rfl, ho, hb⟩
    have HB := Lib.hid (g_chain (below_a1 _ _) hb)
    have HT := Lib.hid (SlI.of_own ho)
    clear hb ho
    go_wp2_with fail
    refine (C2.out _ _ _ HT.out).mono ?_
    rintro e w2 ⟨rfl, rfl⟩
    go_wp2
    go_ret
    exact ⟨rfl, HB.out⟩

set_option maxRecDepth 20000 in
set_option maxHeartbeats 8000000 in
theorem specUpdate (p s v x : Int) (A : Option Addr) (n c : Nat) (es : List VE) (w : World) (hr : SlV w A n es) (hn : n ≤ 1048576) :
    Calls Tryz.prog 100 #[.agg #[.int .i64 p, .int .i64 s], .int .i64 v, .int .i64 x, .slice A n c] w (MadeU w (updV p v x es) (updE p v x es)) := by
  obtain ⟨i0, hi, hz0, hz1, hz2⟩ := info_parts Tryz.infoInt
  have HR := Lib.hid hr
  have HL := Lib.hid hr.len
  clear hr
  have CV := Lib.hid (fun W => specVertex v W)
  have CL := Lib.hid (fun W (h : Below w.heap.size w W) => specViews A n c es W (HR.out.below h) (by omega))
  unfold GTell at CL
  by_cases hp1 : p < 1
  · skip
    have hno := upd_no (p := p) (v := v) (x := x) (es := es) (by unfold updB progB; simp; omega)
    rw [hno.1, hno.2]
    clear hno
    go_enter Tryz.func100, Tryz.ntmps100
    go_wp2
    go_ret2
    exact MadeU.no (below_a1 _ _)
  by_cases hp2 : 4 < p
  · skip
    have hno := upd_no (p := p) (v := v) (x := x) (es := es) (by unfold updB progB; simp; omega)
    rw [hno.1, hno.2]
    clear hno
    go_enter Tryz.func100, Tryz.ntmps100
    go_wp2
    go_ret2
    exact MadeU.no (below_a1 _ _)
  cases hv : vtxB v with
  | false =>
    rw [hv] at CV
    have hno := upd_no (p := p) (v := v) (x := x) (es := es) (by unfold updB; rw [hv]; simp)
    rw [hno.1, hno.2]
    clear hno
    go_enter Tryz.func100, Tryz.ntmps100
    go_wp2_with fail
    refine (CV.out _).mono ?_
    rintro e w1 ⟨rfl, rfl⟩
    go_wp2
    go_ret2
    exact MadeU.no (below_a1 _ _)
  | true =>
  rw [hv] at CV
  by_cases hx0 : x < 0
  · skip
    have hno := upd_no (p := p) (v := v) (x := x) (es := es) (by unfold updB valB; simp; omega)
    rw [hno.1, hno.2]
    clear hno
    go_enter Tryz.func100, Tryz.ntmps100
    go_wp2_with fail
    refine (CV.out _).mono ?_
    rintro e w1 ⟨rfl, rfl⟩
    go_wp2
    go_ret2
    exact MadeU.no (below_a1 _ _)
  by_cases hx1 : 1099511627776 < x
  · skip
    have hno := upd_no (p := p) (v := v) (x := x) (es := es) (by unfold updB valB; simp; omega)
    rw [hno.1, hno.2]
    clear hno
    go_enter Tryz.func100, Tryz.ntmps100
    go_wp2_with fail
    refine (CV.out _).mono ?_
    rintro e w1 ⟨rfl, rfl⟩
    go_wp2
    go_ret2
    exact MadeU.no (below_a1 _ _)
  have hxb : valB x = true := by unfold valB; simp; omega
  cases hl : viewsB es with
  | false =>
    rw [hl] at CL
    have hno := upd_no (p := p) (v := v) (x := x) (es := es) (by unfold updB; rw [hl]; simp)
    rw [hno.1, hno.2]
    clear hno
    go_enter Tryz.func100, Tryz.ntmps100
    go_wp2_with fail
    refine (CV.out _).mono ?_
    rintro e w1 ⟨rfl, rfl⟩
    go_wp2_with fail
    refine (CL.out _ (below_a1 _ _)).mono ?_
    rintro e w2 ⟨rfl, hb⟩
    have B2 := Lib.hid (g_chain (below_a1 w (.cells #[.int .i64 p, .int .i64 s] 27)) hb)
    have X2 := Lib.hid ((Blk.new w #[.int .i64 p, .int .i64 s] 27).below hb)
    clear hb
    go_wp2
    go_ret2
    exact MadeU.no B2.out
  | true =>
  rw [hl] at CL
  have hyes : updB p v x es = true := by unfold updB progB; rw [hv, hl, hxb]; simp; omega
  have HU := updB_is hyes
  have hy := upd_yes hyes
  rw [hy.1, hy.2]
  have HVV : Hid (∀ e ∈ es, 0 ≤ e.v ∧ e.v ≤ 1099511627776) := Lib.hid (fun e he => by have := VE.ok_lim (HU.2.2.2.2 e he); omega)
  have HNX := Lib.hid (newVal_lim (p := p) HU.2.2.1 HU.2.2.2.2)
  have HOP : Hid (∀ e ∈ es, e.o = true → 0 < outsN es) := Lib.hid (fun e he ho => outsN_pos he ho)
  have CN := Lib.hid (fun W (h : Below w.heap.size w W) => specValue p s x A n c es W HU.1 (HR.out.below h) hn HVV.out)
  have HP := Lib.hid HU.1
  clear hy hyes HU hv hl hxb
  generalize newVal p x es = next at CN HNX ⊢
  go_enter Tryz.func100, Tryz.ntmps100
  go_wp2_with fail
  refine (CV.out _).mono ?_
  rintro e w1 ⟨rfl, rfl⟩
  go_wp2_with fail
  refine (CL.out _ (below_a1 _ _)).mono ?_
  rintro e w2 ⟨rfl, hb⟩
  have B2 := Lib.hid (g_chain (below_a1 w (.cells #[.int .i64 p, .int .i64 s] 27)) hb)
  have X2 := Lib.hid ((Blk.new w #[.int .i64 p, .int .i64 s] 27).below hb)
  clear hb
  go_wp2
  go_loopw [10, 45] (fun o i wr => ∃ k : Nat, k ≤ n ∧ i = .int .i64 (k : Int) ∧ o = .int .i64 (outsN (es.take k) : Int) ∧ Hid (Below w.heap.size w wr) ∧ Hid (Blk wr w.heap.size #[.int .i64 p, .int .i64 s] 27)) (fun _ i _ => n - (intOf i).toNat)
  case atStart => exact ⟨0, Nat.zero_le _, rfl, rfl, B2, X2⟩
  case round =>
    clear B2 X2
    obtain ⟨k, hk, rfl, rfl, hbel, hX⟩ := hrel
    have HO := outsN_le (es.take k)
    rw [List.length_take] at HO
    obtain ⟨q, hq⟩ : ∃ q, q = outsN (es.take k) := ⟨_, rfl⟩
    rw [← hq] at HO
    simp only [← hq]
    have HS := Lib.hid hq
    have hs2 : q ≤ 2097152 := by omega
    clear hq HO
    by_cases hlt : k < n
    · skip
      obtain ⟨b, off, e, rfl, hbw, he, c0, c1, c2, c3⟩ := HR.out.at_ hlt
      have c0 := (hbel.out.cell (p := ⟨b, off + k * 4, none⟩) hbw).trans c0
      have c1 := (hbel.out.cell (p := ⟨b, off + k * 4 + 1, none⟩) hbw).trans c1
      have c2 := (hbel.out.cell (p := ⟨b, off + k * 4 + 2, none⟩) hbw).trans c2
      have c3 := (hbel.out.cell (p := ⟨b, off + k * 4 + 3, none⟩) hbw).trans c3
      have HN := Lib.hid (outsN_snoc he.out)
      have HX := Lib.hid (hX.out.alloc (.cells #[.bool e.i, .bool e.o, .int .i64 e.w, .int .i64 e.v] 93))
      cases hi9 : e.o with
      | true =>
        rw [hi9] at c1 HN HX
        go_wp2
        go_roundw
        case rel => exact ⟨k + 1, by omega, by go_num, g_val (by rw [HN.out, if_pos rfl, ← HS.out]; first | rfl | omega | (simp only [IntKind.wrap_i64]; omega)), Lib.hid (g_chain hbel.out (below_a1 _ _)), HX⟩
        case measure => simp [intOf]; omega
      | false =>
        rw [hi9] at c1 HN HX
        go_wp2
        go_roundw
        case rel => exact ⟨k + 1, by omega, by go_num, by rw [HN.out, if_neg (by simp), ← HS.out], Lib.hid (g_chain hbel.out (below_a1 _ _)), HX⟩
        case measure => simp [intOf]; omega
    · obtain rfl : k = n := by omega
      have HOT : Hid (q = outsN es) := Lib.hid (by rw [HS.out, ← HL.out, List.take_length])
      have hj0 := hX.out.cell (i := 0) rfl
      have hj1 := hX.out.cell (i := 1) rfl
      go_wp2_with fail
      refine (CN.out _ hbel.out).mono ?_
      rintro e w3 ⟨rfl, hb⟩
      have B3 := Lib.hid (g_chain hbel.out hb)
      have X3 := Lib.hid (hX.out.below hb)
      have HOP2 : Hid (∀ e ∈ es, e.o = true → 0 < q) := Lib.hid (by rw [HOT.out]; exact HOP.out)
      have CE := Lib.hid (fun (e : VE) (he : e ∈ es) W => edgeS p s e next q W HP.out HNX.out (HVV.out e he) (fun ho => HOP2.out e he ho))
      unfold VE.val at CE
      clear hb hj0 hj1 hX hbel HS HOP HOP2 HNX HVV CN hs2
      go_wp2
      go_loopw [14, 61] (fun o i wr => ∃ (j : Nat) (A1 : Option Addr) (c1 : Nat), j ≤ k ∧ i = .int .i64 (j : Int) ∧ o = .slice A1 ((es.take j).map (newEdge p next q)).length c1 ∧ Hid (wr.ownsRow w3.heap.size 3 1 (.slice A1 ((es.take j).map (newEdge p next q)).length c1) ((es.take j).map (newEdge p next q)).length (vi ((es.take j).map (newEdge p next q)))) ∧ Hid (Below w3.heap.size w3 wr)) (fun _ i _ => k - (intOf i).toNat)
      case atStart => exact ⟨0, some ⟨w3.heap.size, 0, none⟩, 0, Nat.zero_le _, rfl, rfl, Lib.hid (lab_built w3), Lib.hid (below_a1 _ _)⟩
      case round =>
        obtain ⟨j, A1, c1, hj, rfl, rfl, hown, hbel⟩ := hrel
        obtain ⟨ms, HMS⟩ : ∃ ms, Hid ((es.take j).map (newEdge p next q) = ms) := ⟨_, Lib.hid rfl⟩
        have hml : ms.length ≤ 2097152 := by rw [← HMS.out, List.length_map, List.length_take]; omega
        rw [HMS.out] at hown
        rw [HMS.out]
        by_cases hlj : j < k
        · obtain ⟨b, off, e, rfl, hbw, he, d0, d1, d2, d3⟩ := HR.out.at_ hlj
          have hb3 := B3.out.size
          have hbw3 : b < w3.heap.size := by omega
          have hw3 := hbel.out.size
          have d0 := ((hbel.out.cell (p := ⟨b, off + j * 4, none⟩) hbw3).trans (B3.out.cell (p := ⟨b, off + j * 4, none⟩) hbw)).trans d0
          have d1 := ((hbel.out.cell (p := ⟨b, off + j * 4 + 1, none⟩) hbw3).trans (B3.out.cell (p := ⟨b, off + j * 4 + 1, none⟩) hbw)).trans d1
          have d2 := ((hbel.out.cell (p := ⟨b, off + j * 4 + 2, none⟩) hbw3).trans (B3.out.cell (p := ⟨b, off + j * 4 + 2, none⟩) hbw)).trans d2
          have d3 := ((hbel.out.cell (p := ⟨b, off + j * 4 + 3, none⟩) hbw3).trans (B3.out.cell (p := ⟨b, off + j * 4 + 3, none⟩) hbw)).trans d3
          have XA := Lib.hid ((X3.out.below hbel.out).alloc (.cells #[.bool e.i, .bool e.o, .int .i64 e.w, .int .i64 e.v] 93))
          have hx0 := XA.out.cell (i := 0) rfl
          have hx1 := XA.out.cell (i := 1) rfl
          have C := Lib.hid (fun W => CE.out e (List.mem_of_getElem? he.out) W)
          have HSN : Hid ((es.take (j + 1)).map (newEdge p next q) = ms ++ [newEdge p next q e]) := Lib.hid (by rw [take_snoc he.out, List.map_append, HMS.out]; rfl)
          generalize newEdge p next q e = z at C HSN
          go_wp2_with fail
          refine (C.out _).mono ?_
          rintro e1 w4 ⟨rfl, hb⟩
          have B4 := Lib.hid (g_chain (below_a1 wr (.cells #[.bool e.i, .bool e.o, .int .i64 e.w, .int .i64 e.v] 93)) hb)
          have O4 := Lib.hid (own_below hown.out B4.out)
          have BB := Lib.hid (g_chain hbel.out B4.out)
          have hs4 := BB.out.size
          have O4x := Lib.hid (O4.out.alloc (.cells #[.int .i64 z] 3))
          clear hb C hx0 hx1 XA d0 d1 d2 d3
          go_wp2_with (at_builtin; refine wpList_append_any _ rfl (.tmp 65) (.tmp 71) _ rfl w3.heap.size 3 i0 _ 1 8 Tryz.underlying28 hi hz0 hz1 hz2 rfl (by omega) (.slice A1 ms.length c1) ms.length (vi ms) rfl O4x.out (w4.heap.size + 1) (some ⟨w4.heap.size, 0, none⟩) 1 1 [.int .i64 z] rfl (lab_reads _ _ _ _ (by simp)) (lab_one _) (by simp only [maxLen]; omega) (by omega) (by simp; omega) ?_)
          intro v5 w5 hown5 hg5 _
          obtain ⟨A5, c5, rfl⟩ := lab_form hown5
          obtain ⟨ms5, HM5⟩ : ∃ l, Hid (l = ms ++ [z]) := ⟨_, Lib.hid rfl⟩
          have hle5 : ms.length + 1 = ms5.length := by rw [HM5.out]; simp
          have O5 : Hid (w5.ownsRow w3.heap.size 3 1 (.slice A5 ms5.length c5) ms5.length (vi ms5)) := Lib.hid (by rw [HM5.out, lab_snoc, List.length_append]; exact hown5)
          have B5 : Hid (Below w3.heap.size w3 w5) := Lib.hid (lab_below (g_chain BB.out (below_a1 _ _)) O4x.out (by simp; omega) hg5)
          clear hown5 hg5
          rw [hle5]
          go_wp2
          go_roundw
          case rel => exact ⟨j + 1, A5, c5, by omega, by go_num, by rw [HSN.out, ← HM5.out], Lib.hid (by rw [HSN.out, ← HM5.out]; exact O5.out), B5⟩
          case measure => simp [intOf]; omega
        · obtain rfl : j = k := by omega
          have HT : Hid (ms = es.map (newEdge p next (outsN es))) := Lib.hid (by rw [← HMS.out, List.take_of_length_le (by rw [HL.out]; exact Nat.le_refl _), HOT.out])
          have HFIN : Hid (wr.ownsRow w.heap.size 3 1 (.slice A1 ms.length c1) ms.length (vi ms)) := Lib.hid (own_monoG hown.out B3.out.size)
          have HBF := Lib.hid (g_chain B3.out hbel.out)
          clear hown hbel
          go_wp2
          go_ret2
          exact ⟨A1, c1, by rw [← HT.out]; rfl, by rw [← HT.out]; exact HFIN.out, HBF.out⟩
end Go.Proofs.YtlhcobkncceodaaGreatDoor
namespace Go.Proofs.YtlhcobkncceodaaGreatDoor
open Go.RowKit
set_option linter.unusedVariables false

theorem s_div (v : Nat) : ((v : Int)).tdiv 8 = ((v / 8 : Nat) : Int) := by rw [Int.tdiv_eq_ediv_of_nonneg (by omega)]; omega
theorem s_mod (v : Nat) : ((v : Int)).tmod 8 = ((v % 8 : Nat) : Int) := by rw [Int.tmod_eq_emod_of_nonneg (by omega)]; omega
theorem s_bit {xs : List Nat} {v x : Nat} (h : xs[v / 8]? = some x) : bitN xs v = decide (x / 2 ^ (v % 8) % 2 = 1) := by
  unfold bitN
  rw [List.getD_eq_getElem?_getD, h, ← byteBit]
  rfl
set_option maxRecDepth 10000 in
set_option maxHeartbeats 4000000 in
theorem specBit (v : Nat) (w : World) (hv : v ≤ 1048576) :
    Calls Tryz.prog 99 #[.int .i64 (v : Int)] w fun e w' => e = .returned (.int .i64 ((2 ^ (v % 8) : Nat) : Int)) ∧ w = w' := by
  have hmv := s_mod v
  have hr8 : v % 8 < 8 := by omega
  generalize v % 8 = r at hmv hr8 ⊢
  obtain ⟨Q, hQ⟩ : ∃ Q, Hid (2 ^ r = Q) := ⟨_, Lib.hid rfl⟩
  rw [hQ.out]
  go_enter Tryz.func99, Tryz.ntmps99
  go_wp2
  go_loop [3, 4] (fun t i => ∃ k : Nat, k ≤ r ∧ i = .int .i64 k ∧ ∃ q : Nat, t = .int .i64 (q : Int) ∧ Hid (2 ^ k = q)) (fun _ i => r - (intOf i).toNat)
  case atStart => exact ⟨0, Nat.zero_le _, rfl, 1, rfl, Lib.hid (Nat.pow_zero 2)⟩
  case round =>
    obtain ⟨k, hk, rfl, q, rfl, hq⟩ := hrel
    have hq256 : q < 256 := by rw [← hq.out]; exact (pow8 (by omega)).1
    by_cases hlt : k < r
    · go_wp2
      go_round
      case rel => exact ⟨k + 1, by omega, by go_num, q * 2, by go_num, Lib.hid (by rw [Nat.pow_succ, hq.out])⟩
      case measure => simp [intOf]; omega
    · obtain rfl : k = r := by omega
      go_wp2
      go_ret
      exact ⟨by rw [← hQ.out, hq.out]; rfl, rfl⟩

theorem sokB_1 {N : Int} {xs : List Nat} (h : N < 0 ∨ 150 < N) : setB N xs = false := by
  rw [Bool.eq_false_iff]
  intro e
  have := setB_dim e
  omega
theorem sokB_3 {N : Int} {xs : List Nat} (h : xs.length ≠ bytesN N.toNat) : setB N xs = false := by
  rw [Bool.eq_false_iff]
  intro e
  have := setB_dim e
  omega
/-- The byte's quotient and its parity. -/
theorem s_quo (x q : Nat) : ((x : Int)).tdiv (q : Int) = ((x / q : Nat) : Int) := by rw [Int.tdiv_eq_ediv_of_nonneg (by omega)]; simp
theorem s_two (x : Nat) : ((x : Int)).tmod 2 = ((x % 2 : Nat) : Int) := by rw [Int.tmod_eq_emod_of_nonneg (by omega)]; omega
set_option maxRecDepth 10000 in
set_option maxHeartbeats 8000000 in
theorem specSetOk (N : Int) (A : Option Addr) (n c : Nat) (xs : List Nat) (w : World) (hr : Rd w A n xs) (hn : n ≤ 2097152) :
    Calls Tryz.prog 68 #[.agg #[.int .i64 N, .slice A n c]] w (GTell w (setB N xs)) := by
  have HL := Lib.hid hr.len
  have HR := Lib.hid hr
  clear hr
  by_cases h1 : N < 0
  · have d1 : decide (N < 0) = true := by simp; omega
    rw [sokB_1 (.inl h1)]
    clear h1
    go_enter Tryz.func68, Tryz.ntmps68
    go_wp2
    go_ret
    exact ⟨rfl, below_a1 _ _⟩
  · by_cases h2 : 150 < N
    · have d1 : decide (N < 0) = false := by simp; omega
      have d2 : decide (150 < N) = true := by simp; omega
      rw [sokB_1 (.inr h2)]
      clear h1 h2
      go_enter Tryz.func68, Tryz.ntmps68
      go_wp2
      go_ret
      exact ⟨rfl, below_a1 _ _⟩
    · obtain ⟨N, rfl⟩ : ∃ k : Nat, N = (k : Int) := ⟨N.toNat, by omega⟩
      have d1 : decide ((N : Int) < 0) = false := by simp
      have d2 : decide (150 < (N : Int)) = false := by simp; omega
      have hN : N ≤ 150 := by omega
      have hb1 : ((N : Int) + 7).tdiv 8 = ((bytesN N : Nat) : Int) := by rw [Int.tdiv_eq_ediv_of_nonneg (by omega)]; unfold bytesN; omega
      have hb2 : bytesN N ≤ 20 := by unfold bytesN; omega
      by_cases h3 : n = bytesN N
      · have d3 : ((n : Int) == ((bytesN N : Nat) : Int)) = true := by simp; omega
        have d4 : ((n : Int) != ((bytesN N : Nat) : Int)) = false := by simp; omega
        have HN : Hid (n = bytesN N) := Lib.hid h3
        have hn8 : n ≤ 20 := by omega
        have hN8 : N ≤ 8 * n := by rw [h3]; unfold bytesN; omega
        clear h1 h2 h3
        generalize bytesN N = q at d3 d4 hb1 hb2
        go_enter Tryz.func68, Tryz.ntmps68
        go_wp2
        go_loopw [3] (fun i wr => ∃ k : Nat, N ≤ k ∧ k ≤ 8 * n ∧ i = .int .i64 k ∧ Hid (Below w.heap.size w wr) ∧ Hid (SBx wr w.heap.size (N : Int) A n c) ∧ Hid (∀ v, N ≤ v → v < k → bitN xs v = false)) (fun i _ => 8 * n - (intOf i).toNat)
        case atStart => exact ⟨N, Nat.le_refl _, hN8, rfl, Lib.hid (below_a1 _ _), Lib.hid (SBx.new w (N : Int) A n c), Lib.hid (fun v h1 h2 => absurd h2 (by omega))⟩
        case round =>
          obtain ⟨k, hNk, hk, rfl, hb, hbx, hall⟩ := hrel
          obtain ⟨l0, c00, c01, f00, f01⟩ := hbx.out.parts
          by_cases hlt : k < 8 * n
          · have hkd : k / 8 < n := by omega
            obtain ⟨b, off, x, rfl, hbw, hx, hxs, hc⟩ := HR.out.at_ hkd
            have hc := (hb.out.cell (p := ⟨b, off + k / 8, none⟩) hbw).trans hc
            have CB := Lib.hid (fun W => specBit k W (by omega))
            have hdv := s_div k
            have hbt := Lib.hid (s_bit hxs.out)
            obtain ⟨hq1, hq2⟩ := pow8 (k := k % 8) (by omega)
            generalize 2 ^ (k % 8) = p at CB hbt hq1 hq2
            generalize k / 8 = d at hdv hc hkd
            have hwd : IntKind.i64.wrap (d : Int) = (d : Int) := IntWalk.i64_in _ (by omega)
            have hpz : ((p : Int) == 0) = false := by simp; omega
            have hqu := s_quo x p
            have hxp : x / p ≤ x := Nat.div_le_self _ _
            generalize x / p = y at hqu hbt hxp
            have hwy : IntKind.i64.wrap (y : Int) = (y : Int) := IntWalk.i64_in _ (by omega)
            have htw := s_two y
            have hy2 : y % 2 < 2 := by omega
            have hby : Hid (bitN xs k = decide (y % 2 = 1)) := hbt
            generalize y % 2 = z at htw hby hy2
            have hwz : IntKind.i64.wrap (z : Int) = (z : Int) := IntWalk.i64_in _ (by omega)
            clear hbt hxs
            by_cases hz : z = 1
            · subst hz
              have hd1 : (((1 : Nat) : Int) == 1) = true := by simp
              have HNO : Hid (setB (N : Int) xs = false) := Lib.hid (by
                rw [Bool.eq_false_iff]
                intro e
                have h9 := (setB_iff.1 e).2 k (by rw [Int.toNat_natCast]; exact hNk)
                rw [hby.out] at h9
                simp at h9)
              clear hby
              go_wp2
              go_quiet (first | (go_at_call 99; exact Calls.quiet_of_same ((CB.out _).mono fun _ _ h => ⟨h.1, h.2.symm⟩)))
              go_wp2
              go_ret
              exact ⟨g_bool HNO.out.symm, s_chain hb.out (below_drewN (Below.refl _ _) _)⟩
            · have hd1 : ((z : Int) == 1) = false := by simp; omega
              have HBY : Hid (bitN xs k = false) := Lib.hid (by rw [hby.out]; simp [hz])
              clear hby
              go_wp2
              go_quiet (first | (go_at_call 99; exact Calls.quiet_of_same ((CB.out _).mono fun _ _ h => ⟨h.1, h.2.symm⟩)))
              go_wp2
              go_roundw
              case rel =>
                refine ⟨k + 1, by omega, by omega, by go_num, Lib.hid (s_chain hb.out (below_drewN (Below.refl _ _) _)), Lib.hid (hbx.out.below (below_drewN (Below.refl _ _) _)), Lib.hid (fun v h1 h2 => ?_)⟩
                rcases Nat.lt_or_ge v k with h9 | h9
                · exact hall.out v h1 h9
                · obtain rfl : v = k := by omega
                  exact HBY.out
              case measure => simp [intOf]; omega
          · obtain rfl : k = 8 * n := by omega
            have HYES : Hid (setB (N : Int) xs = true) := Lib.hid (setB_iff.2 ⟨⟨by omega, by omega, by rw [Int.toNat_natCast, HL.out]; exact HN.out⟩, fun v hv => by
              rw [Int.toNat_natCast] at hv
              rcases Nat.lt_or_ge v (8 * n) with h9 | h9
              · exact hall.out v hv h9
              · exact bitN_far (by rw [HL.out]; exact h9)⟩)
            go_wp2
            go_ret
            exact ⟨g_bool HYES.out.symm, hb.out⟩
      · have d3 : ((n : Int) == ((bytesN N : Nat) : Int)) = false := by simp; omega
        have d4 : ((n : Int) != ((bytesN N : Nat) : Int)) = true := by simp; omega
        have HE := Lib.hid (sokB_3 (N := (N : Int)) (xs := xs) (by rw [HL.out, Int.toNat_natCast]; exact h3))
        rw [HE.out]
        clear h1 h2 h3 HE
        generalize bytesN N = q at d3 d4 hb1 hb2
        go_enter Tryz.func68, Tryz.ntmps68
        go_wp2
        go_ret
        exact ⟨rfl, below_a1 _ _⟩
end Go.Proofs.YtlhcobkncceodaaGreatDoor
namespace Go.Proofs.YtlhcobkncceodaaGreatDoor
open Go.RowKit
set_option linter.unusedVariables false

set_option maxRecDepth 10000 in
set_option maxHeartbeats 8000000 in
theorem specCopySet (N : Int) (A : Option Addr) (n c : Nat) (xs : List Nat) (w : World) (hr : Rd w A n xs) (hn : n ≤ 2097152) :
    Calls Tryz.prog 70 #[.agg #[.int .i64 N, .slice A n c]] w (MadeS w N xs) := by
  obtain ⟨i0, hi, hz0, hz1, hz2⟩ := info_parts Tryz.infoByte
  have HL := Lib.hid hr.len
  have HR := Lib.hid hr
  clear hr
  have HB0 := Lib.hid (((SBx.new w N A n c).below (below_a1 _ (.cells #[.int .i64 0, .slice none 0 0] 30))).below (below_a1 _ (.cells #[] 5)))
  have HB1 := Lib.hid ((SBx.new1 w (.cells #[.int .i64 N, .slice A n c] 30) 0 none 0 0).below (below_a1 _ (.cells #[] 5)))
  have HOW := Lib.hid (built_none ((w.alloc (.cells #[.int .i64 N, .slice A n c] 30)).alloc (.cells #[.int .i64 0, .slice none 0 0] 30)))
  have HB3 := Lib.hid (below_a3 w (.cells #[.int .i64 N, .slice A n c] 30) (.cells #[.int .i64 0, .slice none 0 0] 30) (.cells #[] 5))
  have HRS := Lib.hid ((HR.out.below HB3.out).reads)
  go_enter Tryz.func70, Tryz.ntmps70
  go_wp2_with (at_builtin; refine wpList_append_any _ rfl (.tmp 3) (.tmp 5) 22 rfl (w.heap.size + 1 + 1) 5 i0 _ 1 1 Tryz.underlying22 hi hz0 hz1 hz2 rfl (by omega) (.slice (some ⟨w.heap.size + 1 + 1, 0, none⟩) 0 0) 0 [] rfl (by have h := HOW.out; simp only [World.size_alloc] at h; exact h) _ A n c (vb xs) rfl HRS.out (vb_oneCell xs) (by simp only [maxLen]; omega) (by omega) (by simp) ?_)
  intro v3 w3 hown3 hg3 _
  have X0 := Lib.hid (HB0.out.grown hg3 (by show some (w.heap.size + 1 + 1) ≠ some _; intro e; injection e with e; omega))
  have X1 := Lib.hid (HB1.out.grown hg3 (by show some (w.heap.size + 1 + 1) ≠ some _; intro e; injection e with e; omega))
  have HBW := Lib.hid (HB3.out.grown hg3 HB3.out.size (fun k hk => by have hk2 : some (w.heap.size + 1 + 1) = some k := hk; injection hk2 with hk2; omega))
  obtain ⟨A3, c3, rfl⟩ := own_form hown3
  have HO := Lib.hid hown3
  clear hown3 hg3 HB0 HB1 HOW HB3 HRS
  obtain ⟨l0, c00, c01, f00, f01⟩ := X0.out.parts
  obtain ⟨l1, c10, c11, f10, f11⟩ := X1.out.parts
  have e := HL.out
  subst e
  go_wp2
  refine bodyPost_ret (v := .agg #[.int .i64 N, .slice A3 xs.length c3]) (by simp [results, Tryz.results70, go_sem, c10, c11]) rfl ?_
  refine ⟨A3, c3, rfl, ?_, below_set2 (HBW.out.setCell (Nat.le_refl _) _) (by omega) _ _⟩
  exact own_monoG (own_set2 (own_lowG HO.out (p := ⟨w.heap.size, 1, none⟩) (by show w.heap.size < _; omega) _) (by omega) _ _) (by omega)
end Go.Proofs.YtlhcobkncceodaaGreatDoor
namespace Go.Proofs.YtlhcobkncceodaaGreatDoor
open Go.RowKit
set_option linter.unusedVariables false

set_option maxRecDepth 10000 in
set_option maxHeartbeats 2000000 in
theorem specCopyRun (p s it : Int) (dn : Bool) (A : Option Addr) (n c : Nat) (B : Option Addr) (m d : Nat) (nn : Int) (C : Option Addr) (j k : Nat) (vs ev : List Int) (nx : List Nat) (w : World) (hv : SlI w A n vs) (he : SlI w B m ev) (hx : Rd w C j nx) (hn : n ≤ 2097152) (hm : m ≤ 2097152) (hj : j ≤ 2097152) :
    Calls Tryz.prog 48 #[.agg #[.int .i64 p, .int .i64 s, .int .i64 it, .bool dn, .slice A n c, .slice B m d, .int .i64 nn, .slice C j k]] w (MadeR w p s it dn n m nn j vs ev nx) := by
  obtain ⟨i0, hi, hz0, hz1, hz2⟩ := info_parts Tryz.infoInt
  have RV := Lib.hid (fun W (h : Below w.heap.size w W) => (hv.below h).row.reads)
  have RE := Lib.hid (fun W (h : Below w.heap.size w W) => (he.below h).row.reads)
  have LV := Lib.hid hv.len
  have LE := Lib.hid he.len
  have CX := Lib.hid (fun W (h : Below w.heap.size w W) => specCopySet nn C j k nx W (hx.below h) hj)
  have HJ : Hid (nx.length = j) := Lib.hid hx.len
  unfold MadeS at CX
  rw [HJ.out] at CX
  clear hv he hx
  have H_1 := Lib.hid (g_chain (g_chain (Below.refl w.heap.size w) (below_a1 w (.cells #[.int .i64 p, .int .i64 s, .int .i64 it, .bool dn, .slice A n c, .slice B m d, .int .i64 nn, .slice C j k] 32))) (below_a1 (w.alloc (.cells #[.int .i64 p, .int .i64 s, .int .i64 it, .bool dn, .slice A n c, .slice B m d, .int .i64 nn, .slice C j k] 32)) (.cells #[.int .i64 0, .int .i64 0, .int .i64 0, .bool false, .slice none 0 0, .slice none 0 0, .int .i64 0, .slice none 0 0] 32)))
  have BX_2 : Hid (Blk ((w.alloc (.cells #[.int .i64 p, .int .i64 s, .int .i64 it, .bool dn, .slice A n c, .slice B m d, .int .i64 nn, .slice C j k] 32)).alloc (.cells #[.int .i64 0, .int .i64 0, .int .i64 0, .bool false, .slice none 0 0, .slice none 0 0, .int .i64 0, .slice none 0 0] 32)) (w.heap.size) #[.int .i64 p, .int .i64 s, .int .i64 it, .bool dn, .slice A n c, .slice B m d, .int .i64 nn, .slice C j k] 32) := Lib.hid (by have h := (Blk.new w #[.int .i64 p, .int .i64 s, .int .i64 it, .bool dn, .slice A n c, .slice B m d, .int .i64 nn, .slice C j k] 32).alloc (.cells #[.int .i64 0, .int .i64 0, .int .i64 0, .bool false, .slice none 0 0, .slice none 0 0, .int .i64 0, .slice none 0 0] 32); simpa [Nat.add_assoc] using h)
  have BZ_3 : Hid (Blk ((w.alloc (.cells #[.int .i64 p, .int .i64 s, .int .i64 it, .bool dn, .slice A n c, .slice B m d, .int .i64 nn, .slice C j k] 32)).alloc (.cells #[.int .i64 0, .int .i64 0, .int .i64 0, .bool false, .slice none 0 0, .slice none 0 0, .int .i64 0, .slice none 0 0] 32)) (w.heap.size + 1) #[.int .i64 0, .int .i64 0, .int .i64 0, .bool false, .slice none 0 0, .slice none 0 0, .int .i64 0, .slice none 0 0] 32) := Lib.hid (by have h := Blk.new (w.alloc (.cells #[.int .i64 p, .int .i64 s, .int .i64 it, .bool dn, .slice A n c, .slice B m d, .int .i64 nn, .slice C j k] 32)) #[.int .i64 0, .int .i64 0, .int .i64 0, .bool false, .slice none 0 0, .slice none 0 0, .int .i64 0, .slice none 0 0] 32; simpa [Nat.add_assoc] using h)
  have sz0 : Hid (w.heap.size + 2 ≤ ((w.alloc (.cells #[.int .i64 p, .int .i64 s, .int .i64 it, .bool dn, .slice A n c, .slice B m d, .int .i64 nn, .slice C j k] 32)).alloc (.cells #[.int .i64 0, .int .i64 0, .int .i64 0, .bool false, .slice none 0 0, .slice none 0 0, .int .i64 0, .slice none 0 0] 32)).heap.size) := Lib.hid (by simp)
  go_enter Tryz.func48, Tryz.ntmps48
  have x_4 := BX_2.out.cell (i := 0) rfl
  have x_5 := BX_2.out.cell (i := 1) rfl
  have x_6 := BX_2.out.cell (i := 2) rfl
  have x_7 := BX_2.out.cell (i := 3) rfl
  have x_8 := BX_2.out.cell (i := 4) rfl
  have x_9 := BX_2.out.cell (i := 5) rfl
  have x_10 := BX_2.out.cell (i := 6) rfl
  have x_11 := BX_2.out.cell (i := 7) rfl
  have fz_12 := fun i => BX_2.out.frozen i
  have lt_13 := BX_2.out.lt
  have HLB := Lib.hid (lab_built ((w.alloc (.cells #[.int .i64 p, .int .i64 s, .int .i64 it, .bool dn, .slice A n c, .slice B m d, .int .i64 nn, .slice C j k] 32)).alloc (.cells #[.int .i64 0, .int .i64 0, .int .i64 0, .bool false, .slice none 0 0, .slice none 0 0, .int .i64 0, .slice none 0 0] 32)))
  have hb_14 := below_a1 ((w.alloc (.cells #[.int .i64 p, .int .i64 s, .int .i64 it, .bool dn, .slice A n c, .slice B m d, .int .i64 nn, .slice C j k] 32)).alloc (.cells #[.int .i64 0, .int .i64 0, .int .i64 0, .bool false, .slice none 0 0, .slice none 0 0, .int .i64 0, .slice none 0 0] 32)) (.cells #[] 3)
  have sz_15 : Hid (((w.alloc (.cells #[.int .i64 p, .int .i64 s, .int .i64 it, .bool dn, .slice A n c, .slice B m d, .int .i64 nn, .slice C j k] 32)).alloc (.cells #[.int .i64 0, .int .i64 0, .int .i64 0, .bool false, .slice none 0 0, .slice none 0 0, .int .i64 0, .slice none 0 0] 32)).heap.size = w.heap.size + 1 + 1) := Lib.hid (by simp)
  have sz_16 := Lib.hid BX_2.out.lt
  have sz_17 := Lib.hid BZ_3.out.lt
  have H_18 := Lib.hid (g_chain H_1.out hb_14)
  clear H_1
  have BX_19 := Lib.hid (BX_2.out.below hb_14)
  clear BX_2
  have BZ_20 := Lib.hid (BZ_3.out.below hb_14)
  clear BZ_3
  have sz_21 := Lib.hid (Below.size hb_14)
  clear hb_14
  have sz_22 : Hid (w.heap.size + 1 + 1 + 1 ≤ (((w.alloc (.cells #[.int .i64 p, .int .i64 s, .int .i64 it, .bool dn, .slice A n c, .slice B m d, .int .i64 nn, .slice C j k] 32)).alloc (.cells #[.int .i64 0, .int .i64 0, .int .i64 0, .bool false, .slice none 0 0, .slice none 0 0, .int .i64 0, .slice none 0 0] 32)).alloc (.cells #[] 3)).heap.size) := Lib.hid (by simp)
  go_wp2_with (at_builtin; refine wpList_append_any _ rfl (.tmp 3) (.tmp 5) 28 rfl (w.heap.size + 1 + 1) 3 i0 _ 1 8 Tryz.underlying28 hi hz0 hz1 hz2 rfl (by omega) (.slice (some ⟨w.heap.size + 1 + 1, 0, none⟩) 0 0) 0 [] rfl (by have h := HLB.out; simpa using h) _ A n c (vi vs) rfl (RV.out _ H_18.out) (vi_one vs) (by simp only [maxLen]; omega) (by omega) (by simp) ?_)
  intro vv wv hown hg hat
  have HGG := Lib.hid hg
  have HOW := Lib.hid hown
  obtain ⟨Av, cv, rfl⟩ := lab_form hown
  clear x_4 x_5 x_6 x_7 x_8 x_9 x_10 x_11 fz_12 lt_13 hown hg hat
  have H_23 := Lib.hid (H_18.out.grown HGG.out H_18.out.size (fun k hk => by have hk2 : some (w.heap.size + 1 + 1) = some k := hk; injection hk2 with hk2; have := sz0.out; have := sz_15.out; have := sz_16.out; have := sz_17.out; have := sz_21.out; have := sz_22.out; omega))
  clear H_18
  have BX_24 := Lib.hid (BX_19.out.grown HGG.out (by show some (w.heap.size + 1 + 1) ≠ some _; intro e; injection e with e; have := sz0.out; have := sz_15.out; have := sz_16.out; have := sz_17.out; have := sz_21.out; have := sz_22.out; omega))
  clear BX_19
  have BZ_25 := Lib.hid (BZ_20.out.grown HGG.out (by show some (w.heap.size + 1 + 1) ≠ some _; intro e; injection e with e; have := sz0.out; have := sz_15.out; have := sz_16.out; have := sz_17.out; have := sz_21.out; have := sz_22.out; omega))
  clear BZ_20
  have sz_26 := Lib.hid (World.grownBy.size HGG.out)
  have Ov_27 := Lib.hid ((by have h := HOW.out; simpa using h : wv.ownsRow (w.heap.size + 1 + 1) 3 1 (.slice Av n cv) n (vi vs)))
  clear HGG HOW HLB
  have x_28 := BX_24.out.cell (i := 0) rfl
  have x_29 := BX_24.out.cell (i := 1) rfl
  have x_30 := BX_24.out.cell (i := 2) rfl
  have x_31 := BX_24.out.cell (i := 3) rfl
  have x_32 := BX_24.out.cell (i := 4) rfl
  have x_33 := BX_24.out.cell (i := 5) rfl
  have x_34 := BX_24.out.cell (i := 6) rfl
  have x_35 := BX_24.out.cell (i := 7) rfl
  have fz_36 := fun i => BX_24.out.frozen i
  have lt_37 := BX_24.out.lt
  have hg_38 := grown_cell wv (w.heap.size) 4 (.slice Av n cv)
  have H_39 := Lib.hid (H_23.out.grown hg_38 H_23.out.size (fun j hj => by injection hj with hj; have := sz0.out; have := sz_15.out; have := sz_16.out; have := sz_17.out; have := sz_21.out; have := sz_22.out; have := sz_26.out; omega))
  clear H_23
  have BZ_40 := Lib.hid (BZ_25.out.grown hg_38 (by intro e; injection e with e; have := sz0.out; have := sz_15.out; have := sz_16.out; have := sz_17.out; have := sz_21.out; have := sz_22.out; have := sz_26.out; omega))
  clear BZ_25
  have Ov_41 := Lib.hid (own_kept Ov_27.out hg_38 (own_kind Ov_27.out BX_24.out (by decide)))
  clear Ov_27
  have BX_42 : Hid (Blk (wv.setCell ⟨w.heap.size, 4, none⟩ (.slice Av n cv)) (w.heap.size) #[.int .i64 p, .int .i64 s, .int .i64 it, .bool dn, .slice Av n cv, .slice B m d, .int .i64 nn, .slice C j k] 32) := Lib.hid (Blk.set (BX_24.out) 4 (.slice Av n cv))
  clear BX_24
  have sz_43 := Lib.hid (World.grownBy.size hg_38)
  clear hg_38
  have LTV := Lib.hid Ov_41.out.lt
  have HLB := Lib.hid (lab_built (wv.setCell ⟨w.heap.size, 4, none⟩ (.slice Av n cv)))
  have hb_44 := below_a1 (wv.setCell ⟨w.heap.size, 4, none⟩ (.slice Av n cv)) (.cells #[] 3)
  have sz_45 : Hid ((wv.setCell ⟨w.heap.size, 4, none⟩ (.slice Av n cv)).heap.size = wv.heap.size) := Lib.hid (by simp)
  have sz_46 := Lib.hid BX_42.out.lt
  have sz_47 := Lib.hid BZ_40.out.lt
  have LT_48 := Lib.hid Ov_41.out.lt
  have H_49 := Lib.hid (g_chain H_39.out hb_44)
  clear H_39
  have BX_50 := Lib.hid (BX_42.out.below hb_44)
  clear BX_42
  have BZ_51 := Lib.hid (BZ_40.out.below hb_44)
  clear BZ_40
  have Ov_52 := Lib.hid (own_below Ov_41.out hb_44)
  clear Ov_41
  have sz_53 := Lib.hid (Below.size hb_44)
  clear hb_44
  have sz_54 : Hid (wv.heap.size + 1 ≤ ((wv.setCell ⟨w.heap.size, 4, none⟩ (.slice Av n cv)).alloc (.cells #[] 3)).heap.size) := Lib.hid (by simp)
  go_wp2_with (at_builtin; refine wpList_append_any _ rfl (.tmp 8) (.tmp 10) 28 rfl (wv.heap.size) 3 i0 _ 1 8 Tryz.underlying28 hi hz0 hz1 hz2 rfl (by omega) (.slice (some ⟨wv.heap.size, 0, none⟩) 0 0) 0 [] rfl (by have h := HLB.out; simpa using h) _ B m d (vi ev) rfl (RE.out _ H_49.out) (vi_one ev) (by simp only [maxLen]; omega) (by omega) (by simp) ?_)
  intro ve we hown hg hat
  have HGG := Lib.hid hg
  have HOW := Lib.hid hown
  obtain ⟨Ae, ce, rfl⟩ := lab_form hown
  clear x_28 x_29 x_30 x_31 x_32 x_33 x_34 x_35 fz_36 lt_37 hown hg hat
  have H_55 := Lib.hid (H_49.out.grown HGG.out H_49.out.size (fun k hk => by have hk2 : some (wv.heap.size) = some k := hk; injection hk2 with hk2; have := sz0.out; have := sz_15.out; have := sz_16.out; have := sz_17.out; have := sz_21.out; have := sz_22.out; have := sz_26.out; have := sz_43.out; have := sz_45.out; have := sz_46.out; have := sz_47.out; have := sz_53.out; have := sz_54.out; omega))
  clear H_49
  have BX_56 := Lib.hid (BX_50.out.grown HGG.out (by show some (wv.heap.size) ≠ some _; intro e; injection e with e; have := sz0.out; have := sz_15.out; have := sz_16.out; have := sz_17.out; have := sz_21.out; have := sz_22.out; have := sz_26.out; have := sz_43.out; have := sz_45.out; have := sz_46.out; have := sz_47.out; have := sz_53.out; have := sz_54.out; omega))
  clear BX_50
  have BZ_57 := Lib.hid (BZ_51.out.grown HGG.out (by show some (wv.heap.size) ≠ some _; intro e; injection e with e; have := sz0.out; have := sz_15.out; have := sz_16.out; have := sz_17.out; have := sz_21.out; have := sz_22.out; have := sz_26.out; have := sz_43.out; have := sz_45.out; have := sz_46.out; have := sz_47.out; have := sz_53.out; have := sz_54.out; omega))
  clear BZ_51
  have Ov_58 := Lib.hid (Ov_52.out.kept HGG.out (own_old (g := wv.heap.size) LT_48.out (by have := sz0.out; have := sz_15.out; have := sz_16.out; have := sz_17.out; have := sz_21.out; have := sz_22.out; have := sz_26.out; have := sz_43.out; have := sz_45.out; have := sz_46.out; have := sz_47.out; have := sz_53.out; have := sz_54.out; omega)))
  clear Ov_52
  have sz_59 := Lib.hid (World.grownBy.size HGG.out)
  have Oe_60 := Lib.hid ((by have h := HOW.out; simpa using h : we.ownsRow (wv.heap.size) 3 1 (.slice Ae m ce) m (vi ev)))
  have AP := Lib.hid (own_time LTV.out Oe_60.out (by have := sz0.out; have := sz_15.out; have := sz_16.out; have := sz_17.out; have := sz_21.out; have := sz_22.out; have := sz_26.out; have := sz_43.out; have := sz_45.out; have := sz_46.out; have := sz_47.out; have := sz_53.out; have := sz_54.out; have := sz_59.out; omega))
  clear HGG HOW HLB
  have x_61 := BX_56.out.cell (i := 0) rfl
  have x_62 := BX_56.out.cell (i := 1) rfl
  have x_63 := BX_56.out.cell (i := 2) rfl
  have x_64 := BX_56.out.cell (i := 3) rfl
  have x_65 := BX_56.out.cell (i := 4) rfl
  have x_66 := BX_56.out.cell (i := 5) rfl
  have x_67 := BX_56.out.cell (i := 6) rfl
  have x_68 := BX_56.out.cell (i := 7) rfl
  have fz_69 := fun i => BX_56.out.frozen i
  have lt_70 := BX_56.out.lt
  have hg_71 := grown_cell we (w.heap.size) 5 (.slice Ae m ce)
  have H_72 := Lib.hid (H_55.out.grown hg_71 H_55.out.size (fun j hj => by injection hj with hj; have := sz0.out; have := sz_15.out; have := sz_16.out; have := sz_17.out; have := sz_21.out; have := sz_22.out; have := sz_26.out; have := sz_43.out; have := sz_45.out; have := sz_46.out; have := sz_47.out; have := sz_53.out; have := sz_54.out; have := sz_59.out; omega))
  clear H_55
  have BZ_73 := Lib.hid (BZ_57.out.grown hg_71 (by intro e; injection e with e; have := sz0.out; have := sz_15.out; have := sz_16.out; have := sz_17.out; have := sz_21.out; have := sz_22.out; have := sz_26.out; have := sz_43.out; have := sz_45.out; have := sz_46.out; have := sz_47.out; have := sz_53.out; have := sz_54.out; have := sz_59.out; omega))
  clear BZ_57
  have Ov_74 := Lib.hid (own_kept Ov_58.out hg_71 (own_kind Ov_58.out BX_56.out (by decide)))
  clear Ov_58
  have Oe_75 := Lib.hid (own_kept Oe_60.out hg_71 (own_kind Oe_60.out BX_56.out (by decide)))
  clear Oe_60
  have BX_76 : Hid (Blk (we.setCell ⟨w.heap.size, 5, none⟩ (.slice Ae m ce)) (w.heap.size) #[.int .i64 p, .int .i64 s, .int .i64 it, .bool dn, .slice Av n cv, .slice Ae m ce, .int .i64 nn, .slice C j k] 32) := Lib.hid (Blk.set (BX_56.out) 5 (.slice Ae m ce))
  clear BX_56
  have sz_77 := Lib.hid (World.grownBy.size hg_71)
  clear hg_71
  go_wp2_with fail
  refine (CX.out _ H_72.out).mono ?_
  rintro e w1 ⟨Ax, cx, rfl, ho, hb⟩
  clear x_61
  clear x_62
  clear x_63
  clear x_64
  clear x_65
  clear x_66
  clear x_67
  clear x_68
  clear fz_69
  clear lt_70
  have H_78 := Lib.hid (g_chain H_72.out hb)
  clear H_72
  have BX_79 := Lib.hid (BX_76.out.below hb)
  clear BX_76
  have BZ_80 := Lib.hid (BZ_73.out.below hb)
  clear BZ_73
  have Ov_81 := Lib.hid (own_below Ov_74.out hb)
  clear Ov_74
  have Oe_82 := Lib.hid (own_below Oe_75.out hb)
  clear Oe_75
  have sz_83 := Lib.hid (Below.size hb)
  have Ox_84 := Lib.hid (ho)
  clear ho hb
  have x_85 := BX_79.out.cell (i := 0) rfl
  have x_86 := BX_79.out.cell (i := 1) rfl
  have x_87 := BX_79.out.cell (i := 2) rfl
  have x_88 := BX_79.out.cell (i := 3) rfl
  have x_89 := BX_79.out.cell (i := 4) rfl
  have x_90 := BX_79.out.cell (i := 5) rfl
  have x_91 := BX_79.out.cell (i := 6) rfl
  have x_92 := BX_79.out.cell (i := 7) rfl
  have fz_93 := fun i => BX_79.out.frozen i
  have lt_94 := BX_79.out.lt
  have x_95 := BZ_80.out.cell (i := 0) rfl
  have x_96 := BZ_80.out.cell (i := 1) rfl
  have x_97 := BZ_80.out.cell (i := 2) rfl
  have x_98 := BZ_80.out.cell (i := 3) rfl
  have x_99 := BZ_80.out.cell (i := 4) rfl
  have x_100 := BZ_80.out.cell (i := 5) rfl
  have x_101 := BZ_80.out.cell (i := 6) rfl
  have x_102 := BZ_80.out.cell (i := 7) rfl
  have fz_103 := fun i => BZ_80.out.frozen i
  have lt_104 := BZ_80.out.lt
  go_wp2
  have hg_105 := (grown_cell w1 (w.heap.size) 6 (.int .i64 nn)).trans (grown_cell (w1.setCell ⟨w.heap.size, 6, none⟩ (.int .i64 nn)) (w.heap.size) 7 (.slice Ax j cx))
  have H_106 := Lib.hid (H_78.out.grown hg_105 H_78.out.size (fun j hj => by injection hj with hj; have := sz0.out; have := sz_15.out; have := sz_16.out; have := sz_17.out; have := sz_21.out; have := sz_22.out; have := sz_26.out; have := sz_43.out; have := sz_45.out; have := sz_46.out; have := sz_47.out; have := sz_53.out; have := sz_54.out; have := sz_59.out; have := sz_77.out; have := sz_83.out; omega))
  clear H_78
  have BZ_107 := Lib.hid (BZ_80.out.grown hg_105 (by intro e; injection e with e; have := sz0.out; have := sz_15.out; have := sz_16.out; have := sz_17.out; have := sz_21.out; have := sz_22.out; have := sz_26.out; have := sz_43.out; have := sz_45.out; have := sz_46.out; have := sz_47.out; have := sz_53.out; have := sz_54.out; have := sz_59.out; have := sz_77.out; have := sz_83.out; omega))
  clear BZ_80
  have Ov_108 := Lib.hid (own_kept Ov_81.out hg_105 (own_kind Ov_81.out BX_79.out (by decide)))
  clear Ov_81
  have Oe_109 := Lib.hid (own_kept Oe_82.out hg_105 (own_kind Oe_82.out BX_79.out (by decide)))
  clear Oe_82
  have Ox_110 := Lib.hid (own_kept Ox_84.out hg_105 (own_kind Ox_84.out BX_79.out (by decide)))
  clear Ox_84
  have BX_111 : Hid (Blk ((w1.setCell ⟨w.heap.size, 6, none⟩ (.int .i64 nn)).setCell ⟨w.heap.size, 7, none⟩ (.slice Ax j cx)) (w.heap.size) #[.int .i64 p, .int .i64 s, .int .i64 it, .bool dn, .slice Av n cv, .slice Ae m ce, .int .i64 nn, .slice Ax j cx] 32) := Lib.hid (Blk.set (Blk.set (BX_79.out) 6 (.int .i64 nn)) 7 (.slice Ax j cx))
  clear BX_79
  have sz_112 := Lib.hid (World.grownBy.size hg_105)
  clear hg_105
  have hg_113 := (((((((grown_cell ((w1.setCell ⟨w.heap.size, 6, none⟩ (.int .i64 nn)).setCell ⟨w.heap.size, 7, none⟩ (.slice Ax j cx)) (w.heap.size + 1) 0 (.int .i64 p)).trans (grown_cell (((w1.setCell ⟨w.heap.size, 6, none⟩ (.int .i64 nn)).setCell ⟨w.heap.size, 7, none⟩ (.slice Ax j cx)).setCell ⟨w.heap.size + 1, 0, none⟩ (.int .i64 p)) (w.heap.size + 1) 1 (.int .i64 s))).trans (grown_cell ((((w1.setCell ⟨w.heap.size, 6, none⟩ (.int .i64 nn)).setCell ⟨w.heap.size, 7, none⟩ (.slice Ax j cx)).setCell ⟨w.heap.size + 1, 0, none⟩ (.int .i64 p)).setCell ⟨w.heap.size + 1, 1, none⟩ (.int .i64 s)) (w.heap.size + 1) 2 (.int .i64 it))).trans (grown_cell (((((w1.setCell ⟨w.heap.size, 6, none⟩ (.int .i64 nn)).setCell ⟨w.heap.size, 7, none⟩ (.slice Ax j cx)).setCell ⟨w.heap.size + 1, 0, none⟩ (.int .i64 p)).setCell ⟨w.heap.size + 1, 1, none⟩ (.int .i64 s)).setCell ⟨w.heap.size + 1, 2, none⟩ (.int .i64 it)) (w.heap.size + 1) 3 (.bool dn))).trans (grown_cell ((((((w1.setCell ⟨w.heap.size, 6, none⟩ (.int .i64 nn)).setCell ⟨w.heap.size, 7, none⟩ (.slice Ax j cx)).setCell ⟨w.heap.size + 1, 0, none⟩ (.int .i64 p)).setCell ⟨w.heap.size + 1, 1, none⟩ (.int .i64 s)).setCell ⟨w.heap.size + 1, 2, none⟩ (.int .i64 it)).setCell ⟨w.heap.size + 1, 3, none⟩ (.bool dn)) (w.heap.size + 1) 4 (.slice Av n cv))).trans (grown_cell (((((((w1.setCell ⟨w.heap.size, 6, none⟩ (.int .i64 nn)).setCell ⟨w.heap.size, 7, none⟩ (.slice Ax j cx)).setCell ⟨w.heap.size + 1, 0, none⟩ (.int .i64 p)).setCell ⟨w.heap.size + 1, 1, none⟩ (.int .i64 s)).setCell ⟨w.heap.size + 1, 2, none⟩ (.int .i64 it)).setCell ⟨w.heap.size + 1, 3, none⟩ (.bool dn)).setCell ⟨w.heap.size + 1, 4, none⟩ (.slice Av n cv)) (w.heap.size + 1) 5 (.slice Ae m ce))).trans (grown_cell ((((((((w1.setCell ⟨w.heap.size, 6, none⟩ (.int .i64 nn)).setCell ⟨w.heap.size, 7, none⟩ (.slice Ax j cx)).setCell ⟨w.heap.size + 1, 0, none⟩ (.int .i64 p)).setCell ⟨w.heap.size + 1, 1, none⟩ (.int .i64 s)).setCell ⟨w.heap.size + 1, 2, none⟩ (.int .i64 it)).setCell ⟨w.heap.size + 1, 3, none⟩ (.bool dn)).setCell ⟨w.heap.size + 1, 4, none⟩ (.slice Av n cv)).setCell ⟨w.heap.size + 1, 5, none⟩ (.slice Ae m ce)) (w.heap.size + 1) 6 (.int .i64 nn))).trans (grown_cell (((((((((w1.setCell ⟨w.heap.size, 6, none⟩ (.int .i64 nn)).setCell ⟨w.heap.size, 7, none⟩ (.slice Ax j cx)).setCell ⟨w.heap.size + 1, 0, none⟩ (.int .i64 p)).setCell ⟨w.heap.size + 1, 1, none⟩ (.int .i64 s)).setCell ⟨w.heap.size + 1, 2, none⟩ (.int .i64 it)).setCell ⟨w.heap.size + 1, 3, none⟩ (.bool dn)).setCell ⟨w.heap.size + 1, 4, none⟩ (.slice Av n cv)).setCell ⟨w.heap.size + 1, 5, none⟩ (.slice Ae m ce)).setCell ⟨w.heap.size + 1, 6, none⟩ (.int .i64 nn)) (w.heap.size + 1) 7 (.slice Ax j cx))
  have H_114 := Lib.hid (H_106.out.grown hg_113 H_106.out.size (fun j hj => by injection hj with hj; have := sz0.out; have := sz_15.out; have := sz_16.out; have := sz_17.out; have := sz_21.out; have := sz_22.out; have := sz_26.out; have := sz_43.out; have := sz_45.out; have := sz_46.out; have := sz_47.out; have := sz_53.out; have := sz_54.out; have := sz_59.out; have := sz_77.out; have := sz_83.out; have := sz_112.out; omega))
  clear H_106
  have BX_115 := Lib.hid (BX_111.out.grown hg_113 (by intro e; injection e with e; have := sz0.out; have := sz_15.out; have := sz_16.out; have := sz_17.out; have := sz_21.out; have := sz_22.out; have := sz_26.out; have := sz_43.out; have := sz_45.out; have := sz_46.out; have := sz_47.out; have := sz_53.out; have := sz_54.out; have := sz_59.out; have := sz_77.out; have := sz_83.out; have := sz_112.out; omega))
  clear BX_111
  have Ov_116 := Lib.hid (own_kept Ov_108.out hg_113 (own_kind Ov_108.out BZ_107.out (by decide)))
  clear Ov_108
  have Oe_117 := Lib.hid (own_kept Oe_109.out hg_113 (own_kind Oe_109.out BZ_107.out (by decide)))
  clear Oe_109
  have Ox_118 := Lib.hid (own_kept Ox_110.out hg_113 (own_kind Ox_110.out BZ_107.out (by decide)))
  clear Ox_110
  have BZ_119 : Hid (Blk ((((((((((w1.setCell ⟨w.heap.size, 6, none⟩ (.int .i64 nn)).setCell ⟨w.heap.size, 7, none⟩ (.slice Ax j cx)).setCell ⟨w.heap.size + 1, 0, none⟩ (.int .i64 p)).setCell ⟨w.heap.size + 1, 1, none⟩ (.int .i64 s)).setCell ⟨w.heap.size + 1, 2, none⟩ (.int .i64 it)).setCell ⟨w.heap.size + 1, 3, none⟩ (.bool dn)).setCell ⟨w.heap.size + 1, 4, none⟩ (.slice Av n cv)).setCell ⟨w.heap.size + 1, 5, none⟩ (.slice Ae m ce)).setCell ⟨w.heap.size + 1, 6, none⟩ (.int .i64 nn)).setCell ⟨w.heap.size + 1, 7, none⟩ (.slice Ax j cx)) (w.heap.size + 1) #[.int .i64 p, .int .i64 s, .int .i64 it, .bool dn, .slice Av n cv, .slice Ae m ce, .int .i64 nn, .slice Ax j cx] 32) := Lib.hid (Blk.set (Blk.set (Blk.set (Blk.set (Blk.set (Blk.set (Blk.set (Blk.set (BZ_107.out) 0 (.int .i64 p)) 1 (.int .i64 s)) 2 (.int .i64 it)) 3 (.bool dn)) 4 (.slice Av n cv)) 5 (.slice Ae m ce)) 6 (.int .i64 nn)) 7 (.slice Ax j cx))
  clear BZ_107
  have sz_120 := Lib.hid (World.grownBy.size hg_113)
  clear hg_113
  refine bodyPost_ret (v := .agg #[.int .i64 p, .int .i64 s, .int .i64 it, .bool dn, .slice Av n cv, .slice Ae m ce, .int .i64 nn, .slice Ax j cx]) (by simp [results, Tryz.results48, go_sem, x_95, x_96, x_97, x_98, x_99, x_100, x_101, x_102]) rfl ?_
  exact ⟨Av, cv, Ae, ce, Ax, cx, rfl, ⟨own_monoG Ov_116.out (by have := sz0.out; have := sz_15.out; have := sz_16.out; have := sz_17.out; have := sz_21.out; have := sz_22.out; have := sz_26.out; have := sz_43.out; have := sz_45.out; have := sz_46.out; have := sz_47.out; have := sz_53.out; have := sz_54.out; have := sz_59.out; have := sz_77.out; have := sz_83.out; have := sz_112.out; have := sz_120.out; omega), own_monoG Oe_117.out (by have := sz0.out; have := sz_15.out; have := sz_16.out; have := sz_17.out; have := sz_21.out; have := sz_22.out; have := sz_26.out; have := sz_43.out; have := sz_45.out; have := sz_46.out; have := sz_47.out; have := sz_53.out; have := sz_54.out; have := sz_59.out; have := sz_77.out; have := sz_83.out; have := sz_112.out; have := sz_120.out; omega), own_monoG Ox_118.out (by have := sz0.out; have := sz_15.out; have := sz_16.out; have := sz_17.out; have := sz_21.out; have := sz_22.out; have := sz_26.out; have := sz_43.out; have := sz_45.out; have := sz_46.out; have := sz_47.out; have := sz_53.out; have := sz_54.out; have := sz_59.out; have := sz_77.out; have := sz_83.out; have := sz_112.out; have := sz_120.out; omega), AP.out⟩, H_114.out⟩
end Go.Proofs.YtlhcobkncceodaaGreatDoor
