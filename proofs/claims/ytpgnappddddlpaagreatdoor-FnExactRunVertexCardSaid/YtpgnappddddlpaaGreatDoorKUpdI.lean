/- The contract of the program's Update. Condition: at most 2^20 views, each a number of 64 bits. -/
import Derived.Test.YtpgnappddddlpaaGreatDoorCGF
import Derived.Test.YtpgnappddddlpaaGreatDoorCGG
import Derived.Test.YtpgnappddddlpaaGreatDoorCGD
namespace Go.Proofs.YtpgnappddddlpaaGreatDoor
open Go.RowKit

/-- What an update leaves: a value, and new numbers. -/
def MadeU (w : World) (a : Int) (ys : List Int) (e : Ending) (w' : World) : Prop :=
  ∃ A c, e = .returned (.tuple #[.int .i64 a, .slice A ys.length c]) ∧ w'.ownsRow w.heap.size 3 1 (.slice A ys.length c) ys.length (vi ys) ∧ Below w.heap.size w w'
theorem MadeU.no {w w' : World} (h : Below w.heap.size w w') : MadeU w 0 [] (.returned (.tuple #[.int .i64 0, .slice none 0 0])) w' := ⟨none, 0, rfl, World.ownsRow_nil _ _ _ _, h⟩
theorem upd_no {p v x : Int} {es : List VE} (h : updB p v x es = false) : updV p v x es = 0 ∧ updE p v x es = [] := by
  unfold updV updE
  rw [h]
  exact ⟨rfl, rfl⟩
theorem upd_yes {p v x : Int} {es : List VE} (h : updB p v x es = true) : updV p v x es = newVal p x es ∧ updE p v x es = es.map (newEdge p (newVal p x es) (outsN es)) := by
  unfold updV updE
  rw [h]
  exact ⟨rfl, rfl⟩
theorem newVal_lim {p x : Int} {es : List VE} (hx : 0 ≤ x ∧ x ≤ 1099511627776) (h : ∀ e ∈ es, e.ok = true) : 0 ≤ newVal p x es ∧ newVal p x es ≤ 1099511627776 := by
  unfold newVal
  split
  · exact addC_lim _ _
  split
  · unfold minAll
    suffices H : ∀ (l : List VE) (y : Int), (∀ e ∈ l, e.ok = true) → 0 ≤ y ∧ y ≤ 1099511627776 → 0 ≤ l.foldl (fun x e => min x e.v) y ∧ l.foldl (fun x e => min x e.v) y ≤ 1099511627776 from H es x h hx
    intro l
    induction l with
    | nil => intro y _ hy; exact hy
    | cons e l ih =>
      intro y hl hy
      rw [List.foldl_cons]
      have h1 := VE.ok_lim (hl e List.mem_cons_self)
      exact ih _ (fun a ha => hl a (List.mem_cons_of_mem _ ha)) (by omega)
  split
  · unfold minPath
    suffices H : ∀ (l : List VE) (y : Int), 0 ≤ y ∧ y ≤ 1099511627776 → 0 ≤ l.foldl pathStep y ∧ l.foldl pathStep y ≤ 1099511627776 from H es x hx
    intro l
    induction l with
    | nil => intro y hy; exact hy
    | cons e l ih =>
      intro y hy
      rw [List.foldl_cons]
      refine ih _ ?_
      unfold pathStep
      have h1 := addC_lim e.v e.w
      split
      · omega
      · exact hy
  · exact mostR_lim (told_lim h) hx
theorem zeros_row {w : World} {lo g n c : Nat} {xs : List Int} (hl : xs.length = n) (h : w.ownsRow lo 3 1 (.slice (some ⟨g, 0, none⟩) n c) n (madeCells (Value.int .i64 0).cells (n * 1)).toList) : w.ownsRow lo 3 1 (.slice (some ⟨g, 0, none⟩) n c) n (vi (halfI xs 0)) := by
  rw [g_rep (fun x : Int => [Value.int .i64 x]) 0 1 (fun _ => rfl) (by omega) (Value.int .i64 0).cells rfl n, flat_one] at h
  rw [halfI_zero, hl]
  exact h

set_option maxHeartbeats 2000000 in
theorem updI_none (p s v x : Int) (A : Option Addr) (n c : Nat) (es : List VE) (w : World) (h : p < 1 ∨ 4 < p) :
    Calls Tryz.prog 64 #[.agg #[.int .i64 p, .int .i64 s], .int .i64 v, .int .i64 x, .slice A n c] w (MadeU w (updV p v x es) (updE p v x es)) := by
  have hno := upd_no (p := p) (v := v) (x := x) (es := es) (by unfold updB; rw [progB_no h]; rfl)
  rw [hno.1, hno.2]
  have CP := Lib.hid (fun W => progOf_no p h W)
  unfold GivesP prog0 at CP
  clear hno h
  go_enter Tryz.func64, Tryz.ntmps64
  go_wp2_with fail
  refine (CP.out _).mono ?_
  rintro e w1 ⟨rfl, hb⟩
  have B1 := Lib.hid (g_chain (below_a1 w _) hb)
  clear hb
  go_wp2
  go_ret2
  exact MadeU.no (g_chain B1.out (below_a1 _ _))
set_option maxRecDepth 20000 in
set_option maxHeartbeats 8000000 in
theorem updI_1 (s v x : Int) (A : Option Addr) (n c : Nat) (es : List VE) (w : World) (hr : SlV w A n es) (hn : n ≤ 1048576) :
    Calls Tryz.prog 64 #[.agg #[.int .i64 1, .int .i64 s], .int .i64 v, .int .i64 x, .slice A n c] w (MadeU w (updV 1 v x es) (updE 1 v x es)) := by
  obtain ⟨i0, hi, hz0, hz1, hz2⟩ := info_parts Tryz.infoInt
  have HR := Lib.hid hr
  have HL := Lib.hid hr.len
  clear hr
  have CP := Lib.hid (fun W => progOf_1 W)
  unfold GivesP prog1 at CP
  have CV := Lib.hid (fun W => implIsVertex v W)
  have CX := Lib.hid (fun W => implIsValue x W)
  have CL := Lib.hid (fun W (h : Below w.heap.size w W) => implViewsOk A n c es W (HR.out.below h) (by omega))
  cases hv : vtxB v with
  | false =>
    have hno := upd_no (p := 1) (v := v) (x := x) (es := es) (by unfold updB; rw [hv]; simp)
    rw [hno.1, hno.2]
    rw [hv] at CV
    clear hno hv CX CL
    go_enter Tryz.func64, Tryz.ntmps64
    go_wp2_with fail
    refine (CP.out _).mono ?_
    rintro e w1 ⟨rfl, hb⟩
    have B1 := Lib.hid (g_chain (below_a1 w (.cells #[.int .i64 1, .int .i64 s] 36)) hb)
    obtain ⟨hc, hf⟩ := bcell hb
    have hz : w.heap.size < w1.heap.size := by have := hb.size; simp at this; omega
    have XP := Lib.hid (Blk.new w1 #[.func (.func 92) #[] #[], .func (.func 93) #[] #[], .func (.func 94) #[] #[], .func (.func 95) #[] #[], .func (.func 96) #[] #[]] 110)
    clear hb
    go_wp2_with fail
    refine (CV.out _).mono ?_
    rintro e w2 ⟨rfl, rfl⟩
    go_wp2
    go_ret2
    exact MadeU.no (g_chain B1.out (below_a1 _ _))
  | true =>
  rw [hv] at CV
  cases hx : valB x with
  | false =>
    have hno := upd_no (p := 1) (v := v) (x := x) (es := es) (by unfold updB; rw [hx]; simp)
    rw [hno.1, hno.2]
    rw [hx] at CX
    clear hno hv hx CL
    go_enter Tryz.func64, Tryz.ntmps64
    go_wp2_with fail
    refine (CP.out _).mono ?_
    rintro e w1 ⟨rfl, hb⟩
    have B1 := Lib.hid (g_chain (below_a1 w (.cells #[.int .i64 1, .int .i64 s] 36)) hb)
    obtain ⟨hc, hf⟩ := bcell hb
    have hz : w.heap.size < w1.heap.size := by have := hb.size; simp at this; omega
    have XP := Lib.hid (Blk.new w1 #[.func (.func 92) #[] #[], .func (.func 93) #[] #[], .func (.func 94) #[] #[], .func (.func 95) #[] #[], .func (.func 96) #[] #[]] 110)
    clear hb
    go_wp2_with fail
    refine (CV.out _).mono ?_
    rintro e w2 ⟨rfl, rfl⟩
    go_wp2_with fail
    refine (CX.out _).mono ?_
    rintro e w3 ⟨rfl, rfl⟩
    go_wp2
    go_ret2
    exact MadeU.no (g_chain B1.out (below_a1 _ _))
  | true =>
  rw [hx] at CX
  cases hl : viewsB es with
  | false =>
    have hno := upd_no (p := 1) (v := v) (x := x) (es := es) (by unfold updB; rw [hl]; simp)
    rw [hno.1, hno.2]
    rw [hl] at CL
    clear hno hv hx hl
    go_enter Tryz.func64, Tryz.ntmps64
    go_wp2_with fail
    refine (CP.out _).mono ?_
    rintro e w1 ⟨rfl, hb⟩
    have B1 := Lib.hid (g_chain (below_a1 w (.cells #[.int .i64 1, .int .i64 s] 36)) hb)
    obtain ⟨hc, hf⟩ := bcell hb
    have hz : w.heap.size < w1.heap.size := by have := hb.size; simp at this; omega
    have XP := Lib.hid (Blk.new w1 #[.func (.func 92) #[] #[], .func (.func 93) #[] #[], .func (.func 94) #[] #[], .func (.func 95) #[] #[], .func (.func 96) #[] #[]] 110)
    clear hb
    go_wp2_with fail
    refine (CV.out _).mono ?_
    rintro e w2 ⟨rfl, rfl⟩
    go_wp2_with fail
    refine (CX.out _).mono ?_
    rintro e w3 ⟨rfl, rfl⟩
    go_wp2_with fail
    refine (CL.out _ (g_chain B1.out (below_a1 _ _))).mono ?_
    rintro e w4 ⟨rfl, hb⟩
    have B4 := Lib.hid (g_chain (g_chain B1.out (below_a1 _ _)) hb)
    have X4 := Lib.hid (XP.out.below hb)
    clear hb
    go_wp2
    go_ret2
    exact MadeU.no B4.out
  | true =>
  rw [hl] at CL
  have hyes : updB 1 v x es = true := by unfold updB; rw [hv, hx, hl]; rfl
  have HU := updB_is hyes
  have hy := upd_yes hyes
  rw [hy.1, hy.2]
  have HVV : Hid (∀ e ∈ es, 0 ≤ e.v ∧ e.v ≤ 1099511627776) := Lib.hid (fun e he => by have := VE.ok_lim (HU.2.2.2.2 e he); omega)
  have HNX := Lib.hid (newVal_lim (p := 1) HU.2.2.1 HU.2.2.2.2)
  have HOP : Hid (∀ e ∈ es, e.o = true → 0 < outsN es) := Lib.hid (fun e he ho => outsN_pos he ho)
  have CN := Lib.hid (fun W (h : Below w.heap.size w W) => implNewRank x A n c es W (HR.out.below h) (by omega))
  have CO := Lib.hid (fun W (h : Below w.heap.size w W) => implCountOuts A n c es W (HR.out.below h) (by omega))
  have hnv : newVal 1 x es = newRank es := by unfold newVal; simp
  rw [← hnv] at CN
  clear hnv hy hyes HU hv hx hl
  generalize newVal 1 x es = next at CN HNX ⊢
  generalize outsN es = outs at CO HOP ⊢
  have CE := Lib.hid (fun (e : VE) (he : e ∈ es) W => edgeI_1 e next outs W HNX.out (fun ho => HOP.out e he ho))
  unfold VE.val at CE
  clear HNX HOP HVV
  go_enter Tryz.func64, Tryz.ntmps64
  go_wp2_with fail
  refine (CP.out _).mono ?_
  rintro e w1 ⟨rfl, hb⟩
  have B1 := Lib.hid (g_chain (below_a1 w (.cells #[.int .i64 1, .int .i64 s] 36)) hb)
  obtain ⟨hc, hf⟩ := bcell hb
  have hz : w.heap.size < w1.heap.size := by have := hb.size; simp at this; omega
  have XP := Lib.hid (Blk.new w1 #[.func (.func 92) #[] #[], .func (.func 93) #[] #[], .func (.func 94) #[] #[], .func (.func 95) #[] #[], .func (.func 96) #[] #[]] 110)
  clear hb
  go_wp2_with fail
  refine (CV.out _).mono ?_
  rintro e w2 ⟨rfl, rfl⟩
  go_wp2_with fail
  refine (CX.out _).mono ?_
  rintro e w3 ⟨rfl, rfl⟩
  go_wp2_with fail
  refine (CL.out _ (g_chain B1.out (below_a1 _ _))).mono ?_
  rintro e w4 ⟨rfl, hb⟩
  have B4 := Lib.hid (g_chain (g_chain B1.out (below_a1 _ _)) hb)
  have X4 := Lib.hid (XP.out.below hb)
  clear hb
  have hp3 := X4.out.cell (i := 3) rfl
  go_wp2_with fail
  refine (CN.out _ B4.out).mono ?_
  rintro e w5 ⟨rfl, hb⟩
  have B5 := Lib.hid (g_chain B4.out hb)
  have X5 := Lib.hid (X4.out.below hb)
  clear hb
  go_wp2_with fail
  refine (CO.out _ B5.out).mono ?_
  rintro e w6 ⟨rfl, hb⟩
  have B6 := Lib.hid (g_chain B5.out hb)
  have X6 := Lib.hid (X5.out.below hb)
  clear hb hp3 X4 X5 B1 B4 B5 hc hf hz
  go_wp2_with (refine wpList_make_full _ rfl (.tmp 48) (.tmp 48) 27 rfl w6.heap.size 3 i0 (.int .i64 0) 1 Tryz.underlying27 hi hz0 hz1 .i64 .i64 _ _ n rfl rfl rfl rfl (by rw [hz2]; omega) (by unfold maxLen; omega) (Nat.le_refl _) ?_; intro w7 hown hg)
  have H7 := Lib.hid (zeros_row (xs := es.map (newEdge 1 next outs)) (by rw [List.length_map]; exact HL.out) hown)
  have B7 : Hid (Below w6.heap.size w6 w7) := Lib.hid ((Below.refl _ _).grown hg (Nat.le_refl _) (by simp))
  clear hown hg
  go_loopw [52] (fun i wr => ∃ k : Nat, k ≤ n ∧ i = .int .i64 (k : Int) ∧ Hid (wr.ownsRow w6.heap.size 3 1 (.slice (some ⟨w6.heap.size, 0, none⟩) n n) n (vi (halfI (es.map (newEdge 1 next outs)) k))) ∧ Hid (Below w6.heap.size w6 wr)) (fun i _ => n - (intOf i).toNat)
  case atStart => exact ⟨0, Nat.zero_le _, rfl, H7, B7⟩
  case round =>
    clear H7 B7
    obtain ⟨k, hk, rfl, hown, hbel⟩ := hrel
    by_cases hlt : k < n
    · obtain ⟨b, off, e, rfl, hbw, he, c0, c1, c2, c3⟩ := HR.out.at_ hlt
      have hbw6 : b < w6.heap.size := by have := B6.out.size; omega
      have c0 := ((hbel.out.cell (p := ⟨b, off + k * 4, none⟩) hbw6).trans (B6.out.cell (p := ⟨b, off + k * 4, none⟩) hbw)).trans c0
      have c1 := ((hbel.out.cell (p := ⟨b, off + k * 4 + 1, none⟩) hbw6).trans (B6.out.cell (p := ⟨b, off + k * 4 + 1, none⟩) hbw)).trans c1
      have c2 := ((hbel.out.cell (p := ⟨b, off + k * 4 + 2, none⟩) hbw6).trans (B6.out.cell (p := ⟨b, off + k * 4 + 2, none⟩) hbw)).trans c2
      have c3 := ((hbel.out.cell (p := ⟨b, off + k * 4 + 3, none⟩) hbw6).trans (B6.out.cell (p := ⟨b, off + k * 4 + 3, none⟩) hbw)).trans c3
      have XR := Lib.hid (X6.out.below hbel.out)
      have XA := Lib.hid (XR.out.alloc (.cells #[.bool e.i, .bool e.o, .int .i64 e.w, .int .i64 e.v] 94))
      have hx4 := XA.out.cell (i := 4) rfl
      have C := Lib.hid (fun W => CE.out e (List.mem_of_getElem? he.out) W)
      have HXS : Hid ((es.map (newEdge 1 next outs))[k]? = some (newEdge 1 next outs e)) := Lib.hid (by rw [List.getElem?_map, he.out]; rfl)
      generalize newEdge 1 next outs e = z at C HXS
      clear he
      go_wp2_with fail
      refine (C.out _).mono ?_
      rintro e1 w8 ⟨rfl, hb⟩
      have B8 := Lib.hid (g_chain (below_a1 wr (.cells #[.bool e.i, .bool e.o, .int .i64 e.w, .int .i64 e.v] 94)) hb)
      have hbl8 := g_chain hbel.out B8.out
      have O8 := own_below hown.out B8.out
      clear hb C
      have hl2 : k < (vi (halfI (es.map (newEdge 1 next outs)) k)).length := by rw [O8.1]; omega
      have hcell2 : w8.cell? ⟨w6.heap.size, k, none⟩ = some (vi (halfI (es.map (newEdge 1 next outs)) k))[k] := by rw [O8.cellAt k (by omega), List.getElem?_eq_getElem hl2]
      have hfr := O8.frozenAt k
      have hst := O8.stored k (.int .i64 z)
      rw [halfI_step _ k z HXS.out] at hst
      have hb9 := Lib.hid (hbl8.setCell (p := ⟨w6.heap.size, k, none⟩) (Nat.le_refl _) (.int .i64 z))
      have hst1 := Lib.hid hst.1
      generalize (vi (halfI (es.map (newEdge 1 next outs)) k))[k] = old at hcell2
      clear hst O8 hl2 hbl8 hx4 XA XR c0 c1 c2 c3
      go_wp2
      go_roundw
      case rel => exact ⟨k + 1, by omega, by go_num, hst1, hb9⟩
      case measure => simp [intOf]; omega
    · obtain rfl : k = n := by omega
      have HFIN : Hid (wr.ownsRow w.heap.size 3 1 (.slice (some ⟨w6.heap.size, 0, none⟩) (es.map (newEdge 1 next outs)).length k) (es.map (newEdge 1 next outs)).length (vi (es.map (newEdge 1 next outs)))) := Lib.hid (by
        have e : (es.map (newEdge 1 next outs)).length = k := by rw [List.length_map]; exact HL.out
        have h3 : halfI (es.map (newEdge 1 next outs)) k = es.map (newEdge 1 next outs) := by rw [← e]; exact halfI_full _
        have h := hown.out
        rw [h3] at h
        rw [e]
        exact own_monoG h B6.out.size)
      have HBF := Lib.hid (g_chain B6.out hbel.out)
      have HLM : Hid ((es.map (newEdge 1 next outs)).length = k) := Lib.hid (by rw [List.length_map]; exact HL.out)
      clear hown hbel
      go_wp2
      go_ret2
      exact ⟨some ⟨w6.heap.size, 0, none⟩, k, by rw [HLM.out]; rfl, HFIN.out, HBF.out⟩
set_option maxRecDepth 20000 in
set_option maxHeartbeats 8000000 in
theorem updI_2 (s v x : Int) (A : Option Addr) (n c : Nat) (es : List VE) (w : World) (hr : SlV w A n es) (hn : n ≤ 1048576) :
    Calls Tryz.prog 64 #[.agg #[.int .i64 2, .int .i64 s], .int .i64 v, .int .i64 x, .slice A n c] w (MadeU w (updV 2 v x es) (updE 2 v x es)) := by
  obtain ⟨i0, hi, hz0, hz1, hz2⟩ := info_parts Tryz.infoInt
  have HR := Lib.hid hr
  have HL := Lib.hid hr.len
  clear hr
  have CP := Lib.hid (fun W => progOf_2 W)
  unfold GivesP prog2 at CP
  have CV := Lib.hid (fun W => implIsVertex v W)
  have CX := Lib.hid (fun W => implIsValue x W)
  have CL := Lib.hid (fun W (h : Below w.heap.size w W) => implViewsOk A n c es W (HR.out.below h) (by omega))
  cases hv : vtxB v with
  | false =>
    have hno := upd_no (p := 2) (v := v) (x := x) (es := es) (by unfold updB; rw [hv]; simp)
    rw [hno.1, hno.2]
    rw [hv] at CV
    clear hno hv CX CL
    go_enter Tryz.func64, Tryz.ntmps64
    go_wp2_with fail
    refine (CP.out _).mono ?_
    rintro e w1 ⟨rfl, hb⟩
    have B1 := Lib.hid (g_chain (below_a1 w (.cells #[.int .i64 2, .int .i64 s] 36)) hb)
    obtain ⟨hc, hf⟩ := bcell hb
    have hz : w.heap.size < w1.heap.size := by have := hb.size; simp at this; omega
    have XP := Lib.hid (Blk.new w1 #[.func (.func 92) #[] #[], .func (.func 97) #[] #[], .func (.func 98) #[] #[], .func (.func 99) #[] #[], .func (.func 100) #[] #[]] 110)
    clear hb
    go_wp2_with fail
    refine (CV.out _).mono ?_
    rintro e w2 ⟨rfl, rfl⟩
    go_wp2
    go_ret2
    exact MadeU.no (g_chain B1.out (below_a1 _ _))
  | true =>
  rw [hv] at CV
  cases hx : valB x with
  | false =>
    have hno := upd_no (p := 2) (v := v) (x := x) (es := es) (by unfold updB; rw [hx]; simp)
    rw [hno.1, hno.2]
    rw [hx] at CX
    clear hno hv hx CL
    go_enter Tryz.func64, Tryz.ntmps64
    go_wp2_with fail
    refine (CP.out _).mono ?_
    rintro e w1 ⟨rfl, hb⟩
    have B1 := Lib.hid (g_chain (below_a1 w (.cells #[.int .i64 2, .int .i64 s] 36)) hb)
    obtain ⟨hc, hf⟩ := bcell hb
    have hz : w.heap.size < w1.heap.size := by have := hb.size; simp at this; omega
    have XP := Lib.hid (Blk.new w1 #[.func (.func 92) #[] #[], .func (.func 97) #[] #[], .func (.func 98) #[] #[], .func (.func 99) #[] #[], .func (.func 100) #[] #[]] 110)
    clear hb
    go_wp2_with fail
    refine (CV.out _).mono ?_
    rintro e w2 ⟨rfl, rfl⟩
    go_wp2_with fail
    refine (CX.out _).mono ?_
    rintro e w3 ⟨rfl, rfl⟩
    go_wp2
    go_ret2
    exact MadeU.no (g_chain B1.out (below_a1 _ _))
  | true =>
  rw [hx] at CX
  cases hl : viewsB es with
  | false =>
    have hno := upd_no (p := 2) (v := v) (x := x) (es := es) (by unfold updB; rw [hl]; simp)
    rw [hno.1, hno.2]
    rw [hl] at CL
    clear hno hv hx hl
    go_enter Tryz.func64, Tryz.ntmps64
    go_wp2_with fail
    refine (CP.out _).mono ?_
    rintro e w1 ⟨rfl, hb⟩
    have B1 := Lib.hid (g_chain (below_a1 w (.cells #[.int .i64 2, .int .i64 s] 36)) hb)
    obtain ⟨hc, hf⟩ := bcell hb
    have hz : w.heap.size < w1.heap.size := by have := hb.size; simp at this; omega
    have XP := Lib.hid (Blk.new w1 #[.func (.func 92) #[] #[], .func (.func 97) #[] #[], .func (.func 98) #[] #[], .func (.func 99) #[] #[], .func (.func 100) #[] #[]] 110)
    clear hb
    go_wp2_with fail
    refine (CV.out _).mono ?_
    rintro e w2 ⟨rfl, rfl⟩
    go_wp2_with fail
    refine (CX.out _).mono ?_
    rintro e w3 ⟨rfl, rfl⟩
    go_wp2_with fail
    refine (CL.out _ (g_chain B1.out (below_a1 _ _))).mono ?_
    rintro e w4 ⟨rfl, hb⟩
    have B4 := Lib.hid (g_chain (g_chain B1.out (below_a1 _ _)) hb)
    have X4 := Lib.hid (XP.out.below hb)
    clear hb
    go_wp2
    go_ret2
    exact MadeU.no B4.out
  | true =>
  rw [hl] at CL
  have hyes : updB 2 v x es = true := by unfold updB; rw [hv, hx, hl]; rfl
  have HU := updB_is hyes
  have hy := upd_yes hyes
  rw [hy.1, hy.2]
  have HVV : Hid (∀ e ∈ es, 0 ≤ e.v ∧ e.v ≤ 1099511627776) := Lib.hid (fun e he => by have := VE.ok_lim (HU.2.2.2.2 e he); omega)
  have HNX := Lib.hid (newVal_lim (p := 2) HU.2.2.1 HU.2.2.2.2)
  have HOP : Hid (∀ e ∈ es, e.o = true → 0 < outsN es) := Lib.hid (fun e he ho => outsN_pos he ho)
  have CN := Lib.hid (fun W (h : Below w.heap.size w W) => implNewComponent x A n c es W (HR.out.below h) (by omega))
  have CO := Lib.hid (fun W (h : Below w.heap.size w W) => implCountOuts A n c es W (HR.out.below h) (by omega))
  have hnv : newVal 2 x es = minAll x es := by unfold newVal; simp
  rw [← hnv] at CN
  clear hnv hy hyes HU hv hx hl
  generalize newVal 2 x es = next at CN HNX ⊢
  generalize outsN es = outs at CO HOP ⊢
  have CE := Lib.hid (fun (e : VE) (he : e ∈ es) W => edgeI_2 e next outs W)
  unfold VE.val at CE
  clear HNX HOP HVV
  go_enter Tryz.func64, Tryz.ntmps64
  go_wp2_with fail
  refine (CP.out _).mono ?_
  rintro e w1 ⟨rfl, hb⟩
  have B1 := Lib.hid (g_chain (below_a1 w (.cells #[.int .i64 2, .int .i64 s] 36)) hb)
  obtain ⟨hc, hf⟩ := bcell hb
  have hz : w.heap.size < w1.heap.size := by have := hb.size; simp at this; omega
  have XP := Lib.hid (Blk.new w1 #[.func (.func 92) #[] #[], .func (.func 97) #[] #[], .func (.func 98) #[] #[], .func (.func 99) #[] #[], .func (.func 100) #[] #[]] 110)
  clear hb
  go_wp2_with fail
  refine (CV.out _).mono ?_
  rintro e w2 ⟨rfl, rfl⟩
  go_wp2_with fail
  refine (CX.out _).mono ?_
  rintro e w3 ⟨rfl, rfl⟩
  go_wp2_with fail
  refine (CL.out _ (g_chain B1.out (below_a1 _ _))).mono ?_
  rintro e w4 ⟨rfl, hb⟩
  have B4 := Lib.hid (g_chain (g_chain B1.out (below_a1 _ _)) hb)
  have X4 := Lib.hid (XP.out.below hb)
  clear hb
  have hp3 := X4.out.cell (i := 3) rfl
  go_wp2_with fail
  refine (CN.out _ B4.out).mono ?_
  rintro e w5 ⟨rfl, hb⟩
  have B5 := Lib.hid (g_chain B4.out hb)
  have X5 := Lib.hid (X4.out.below hb)
  clear hb
  go_wp2_with fail
  refine (CO.out _ B5.out).mono ?_
  rintro e w6 ⟨rfl, hb⟩
  have B6 := Lib.hid (g_chain B5.out hb)
  have X6 := Lib.hid (X5.out.below hb)
  clear hb hp3 X4 X5 B1 B4 B5 hc hf hz
  go_wp2_with (refine wpList_make_full _ rfl (.tmp 48) (.tmp 48) 27 rfl w6.heap.size 3 i0 (.int .i64 0) 1 Tryz.underlying27 hi hz0 hz1 .i64 .i64 _ _ n rfl rfl rfl rfl (by rw [hz2]; omega) (by unfold maxLen; omega) (Nat.le_refl _) ?_; intro w7 hown hg)
  have H7 := Lib.hid (zeros_row (xs := es.map (newEdge 2 next outs)) (by rw [List.length_map]; exact HL.out) hown)
  have B7 : Hid (Below w6.heap.size w6 w7) := Lib.hid ((Below.refl _ _).grown hg (Nat.le_refl _) (by simp))
  clear hown hg
  go_loopw [52] (fun i wr => ∃ k : Nat, k ≤ n ∧ i = .int .i64 (k : Int) ∧ Hid (wr.ownsRow w6.heap.size 3 1 (.slice (some ⟨w6.heap.size, 0, none⟩) n n) n (vi (halfI (es.map (newEdge 2 next outs)) k))) ∧ Hid (Below w6.heap.size w6 wr)) (fun i _ => n - (intOf i).toNat)
  case atStart => exact ⟨0, Nat.zero_le _, rfl, H7, B7⟩
  case round =>
    clear H7 B7
    obtain ⟨k, hk, rfl, hown, hbel⟩ := hrel
    by_cases hlt : k < n
    · obtain ⟨b, off, e, rfl, hbw, he, c0, c1, c2, c3⟩ := HR.out.at_ hlt
      have hbw6 : b < w6.heap.size := by have := B6.out.size; omega
      have c0 := ((hbel.out.cell (p := ⟨b, off + k * 4, none⟩) hbw6).trans (B6.out.cell (p := ⟨b, off + k * 4, none⟩) hbw)).trans c0
      have c1 := ((hbel.out.cell (p := ⟨b, off + k * 4 + 1, none⟩) hbw6).trans (B6.out.cell (p := ⟨b, off + k * 4 + 1, none⟩) hbw)).trans c1
      have c2 := ((hbel.out.cell (p := ⟨b, off + k * 4 + 2, none⟩) hbw6).trans (B6.out.cell (p := ⟨b, off + k * 4 + 2, none⟩) hbw)).trans c2
      have c3 := ((hbel.out.cell (p := ⟨b, off + k * 4 + 3, none⟩) hbw6).trans (B6.out.cell (p := ⟨b, off + k * 4 + 3, none⟩) hbw)).trans c3
      have XR := Lib.hid (X6.out.below hbel.out)
      have XA := Lib.hid (XR.out.alloc (.cells #[.bool e.i, .bool e.o, .int .i64 e.w, .int .i64 e.v] 94))
      have hx4 := XA.out.cell (i := 4) rfl
      have C := Lib.hid (fun W => CE.out e (List.mem_of_getElem? he.out) W)
      have HXS : Hid ((es.map (newEdge 2 next outs))[k]? = some (newEdge 2 next outs e)) := Lib.hid (by rw [List.getElem?_map, he.out]; rfl)
      generalize newEdge 2 next outs e = z at C HXS
      clear he
      go_wp2_with fail
      refine (C.out _).mono ?_
      rintro e1 w8 ⟨rfl, hb⟩
      have B8 := Lib.hid (g_chain (below_a1 wr (.cells #[.bool e.i, .bool e.o, .int .i64 e.w, .int .i64 e.v] 94)) hb)
      have hbl8 := g_chain hbel.out B8.out
      have O8 := own_below hown.out B8.out
      clear hb C
      have hl2 : k < (vi (halfI (es.map (newEdge 2 next outs)) k)).length := by rw [O8.1]; omega
      have hcell2 : w8.cell? ⟨w6.heap.size, k, none⟩ = some (vi (halfI (es.map (newEdge 2 next outs)) k))[k] := by rw [O8.cellAt k (by omega), List.getElem?_eq_getElem hl2]
      have hfr := O8.frozenAt k
      have hst := O8.stored k (.int .i64 z)
      rw [halfI_step _ k z HXS.out] at hst
      have hb9 := Lib.hid (hbl8.setCell (p := ⟨w6.heap.size, k, none⟩) (Nat.le_refl _) (.int .i64 z))
      have hst1 := Lib.hid hst.1
      generalize (vi (halfI (es.map (newEdge 2 next outs)) k))[k] = old at hcell2
      clear hst O8 hl2 hbl8 hx4 XA XR c0 c1 c2 c3
      go_wp2
      go_roundw
      case rel => exact ⟨k + 1, by omega, by go_num, hst1, hb9⟩
      case measure => simp [intOf]; omega
    · obtain rfl : k = n := by omega
      have HFIN : Hid (wr.ownsRow w.heap.size 3 1 (.slice (some ⟨w6.heap.size, 0, none⟩) (es.map (newEdge 2 next outs)).length k) (es.map (newEdge 2 next outs)).length (vi (es.map (newEdge 2 next outs)))) := Lib.hid (by
        have e : (es.map (newEdge 2 next outs)).length = k := by rw [List.length_map]; exact HL.out
        have h3 : halfI (es.map (newEdge 2 next outs)) k = es.map (newEdge 2 next outs) := by rw [← e]; exact halfI_full _
        have h := hown.out
        rw [h3] at h
        rw [e]
        exact own_monoG h B6.out.size)
      have HBF := Lib.hid (g_chain B6.out hbel.out)
      have HLM : Hid ((es.map (newEdge 2 next outs)).length = k) := Lib.hid (by rw [List.length_map]; exact HL.out)
      clear hown hbel
      go_wp2
      go_ret2
      exact ⟨some ⟨w6.heap.size, 0, none⟩, k, by rw [HLM.out]; rfl, HFIN.out, HBF.out⟩
set_option maxRecDepth 20000 in
set_option maxHeartbeats 8000000 in
theorem updI_3 (s v x : Int) (A : Option Addr) (n c : Nat) (es : List VE) (w : World) (hr : SlV w A n es) (hn : n ≤ 1048576) :
    Calls Tryz.prog 64 #[.agg #[.int .i64 3, .int .i64 s], .int .i64 v, .int .i64 x, .slice A n c] w (MadeU w (updV 3 v x es) (updE 3 v x es)) := by
  obtain ⟨i0, hi, hz0, hz1, hz2⟩ := info_parts Tryz.infoInt
  have HR := Lib.hid hr
  have HL := Lib.hid hr.len
  clear hr
  have CP := Lib.hid (fun W => progOf_3 W)
  unfold GivesP prog3 at CP
  have CV := Lib.hid (fun W => implIsVertex v W)
  have CX := Lib.hid (fun W => implIsValue x W)
  have CL := Lib.hid (fun W (h : Below w.heap.size w W) => implViewsOk A n c es W (HR.out.below h) (by omega))
  cases hv : vtxB v with
  | false =>
    have hno := upd_no (p := 3) (v := v) (x := x) (es := es) (by unfold updB; rw [hv]; simp)
    rw [hno.1, hno.2]
    rw [hv] at CV
    clear hno hv CX CL
    go_enter Tryz.func64, Tryz.ntmps64
    go_wp2_with fail
    refine (CP.out _).mono ?_
    rintro e w1 ⟨rfl, hb⟩
    have B1 := Lib.hid (g_chain (below_a1 w (.cells #[.int .i64 3, .int .i64 s] 36)) hb)
    obtain ⟨hc, hf⟩ := bcell hb
    have hz : w.heap.size < w1.heap.size := by have := hb.size; simp at this; omega
    have XP := Lib.hid (Blk.new w1 #[.func (.func 101) #[] #[], .func (.func 102) #[] #[], .func (.func 98) #[] #[], .func (.func 103) #[] #[], .func (.func 104) #[] #[]] 110)
    clear hb
    go_wp2_with fail
    refine (CV.out _).mono ?_
    rintro e w2 ⟨rfl, rfl⟩
    go_wp2
    go_ret2
    exact MadeU.no (g_chain B1.out (below_a1 _ _))
  | true =>
  rw [hv] at CV
  cases hx : valB x with
  | false =>
    have hno := upd_no (p := 3) (v := v) (x := x) (es := es) (by unfold updB; rw [hx]; simp)
    rw [hno.1, hno.2]
    rw [hx] at CX
    clear hno hv hx CL
    go_enter Tryz.func64, Tryz.ntmps64
    go_wp2_with fail
    refine (CP.out _).mono ?_
    rintro e w1 ⟨rfl, hb⟩
    have B1 := Lib.hid (g_chain (below_a1 w (.cells #[.int .i64 3, .int .i64 s] 36)) hb)
    obtain ⟨hc, hf⟩ := bcell hb
    have hz : w.heap.size < w1.heap.size := by have := hb.size; simp at this; omega
    have XP := Lib.hid (Blk.new w1 #[.func (.func 101) #[] #[], .func (.func 102) #[] #[], .func (.func 98) #[] #[], .func (.func 103) #[] #[], .func (.func 104) #[] #[]] 110)
    clear hb
    go_wp2_with fail
    refine (CV.out _).mono ?_
    rintro e w2 ⟨rfl, rfl⟩
    go_wp2_with fail
    refine (CX.out _).mono ?_
    rintro e w3 ⟨rfl, rfl⟩
    go_wp2
    go_ret2
    exact MadeU.no (g_chain B1.out (below_a1 _ _))
  | true =>
  rw [hx] at CX
  cases hl : viewsB es with
  | false =>
    have hno := upd_no (p := 3) (v := v) (x := x) (es := es) (by unfold updB; rw [hl]; simp)
    rw [hno.1, hno.2]
    rw [hl] at CL
    clear hno hv hx hl
    go_enter Tryz.func64, Tryz.ntmps64
    go_wp2_with fail
    refine (CP.out _).mono ?_
    rintro e w1 ⟨rfl, hb⟩
    have B1 := Lib.hid (g_chain (below_a1 w (.cells #[.int .i64 3, .int .i64 s] 36)) hb)
    obtain ⟨hc, hf⟩ := bcell hb
    have hz : w.heap.size < w1.heap.size := by have := hb.size; simp at this; omega
    have XP := Lib.hid (Blk.new w1 #[.func (.func 101) #[] #[], .func (.func 102) #[] #[], .func (.func 98) #[] #[], .func (.func 103) #[] #[], .func (.func 104) #[] #[]] 110)
    clear hb
    go_wp2_with fail
    refine (CV.out _).mono ?_
    rintro e w2 ⟨rfl, rfl⟩
    go_wp2_with fail
    refine (CX.out _).mono ?_
    rintro e w3 ⟨rfl, rfl⟩
    go_wp2_with fail
    refine (CL.out _ (g_chain B1.out (below_a1 _ _))).mono ?_
    rintro e w4 ⟨rfl, hb⟩
    have B4 := Lib.hid (g_chain (g_chain B1.out (below_a1 _ _)) hb)
    have X4 := Lib.hid (XP.out.below hb)
    clear hb
    go_wp2
    go_ret2
    exact MadeU.no B4.out
  | true =>
  rw [hl] at CL
  have hyes : updB 3 v x es = true := by unfold updB; rw [hv, hx, hl]; rfl
  have HU := updB_is hyes
  have hy := upd_yes hyes
  rw [hy.1, hy.2]
  have HVV : Hid (∀ e ∈ es, 0 ≤ e.v ∧ e.v ≤ 1099511627776) := Lib.hid (fun e he => by have := VE.ok_lim (HU.2.2.2.2 e he); omega)
  have HNX := Lib.hid (newVal_lim (p := 3) HU.2.2.1 HU.2.2.2.2)
  have HOP : Hid (∀ e ∈ es, e.o = true → 0 < outsN es) := Lib.hid (fun e he ho => outsN_pos he ho)
  have CN := Lib.hid (fun W (h : Below w.heap.size w W) => implNewDistance x A n c es W (HR.out.below h) (by omega))
  have CO := Lib.hid (fun W (h : Below w.heap.size w W) => implCountOuts A n c es W (HR.out.below h) (by omega))
  have hnv : newVal 3 x es = minPath x es := by unfold newVal; simp
  rw [← hnv] at CN
  clear hnv hy hyes HU hv hx hl
  generalize newVal 3 x es = next at CN HNX ⊢
  generalize outsN es = outs at CO HOP ⊢
  have CE := Lib.hid (fun (e : VE) (he : e ∈ es) W => edgeI_3 e next outs W)
  unfold VE.val at CE
  clear HNX HOP HVV
  go_enter Tryz.func64, Tryz.ntmps64
  go_wp2_with fail
  refine (CP.out _).mono ?_
  rintro e w1 ⟨rfl, hb⟩
  have B1 := Lib.hid (g_chain (below_a1 w (.cells #[.int .i64 3, .int .i64 s] 36)) hb)
  obtain ⟨hc, hf⟩ := bcell hb
  have hz : w.heap.size < w1.heap.size := by have := hb.size; simp at this; omega
  have XP := Lib.hid (Blk.new w1 #[.func (.func 101) #[] #[], .func (.func 102) #[] #[], .func (.func 98) #[] #[], .func (.func 103) #[] #[], .func (.func 104) #[] #[]] 110)
  clear hb
  go_wp2_with fail
  refine (CV.out _).mono ?_
  rintro e w2 ⟨rfl, rfl⟩
  go_wp2_with fail
  refine (CX.out _).mono ?_
  rintro e w3 ⟨rfl, rfl⟩
  go_wp2_with fail
  refine (CL.out _ (g_chain B1.out (below_a1 _ _))).mono ?_
  rintro e w4 ⟨rfl, hb⟩
  have B4 := Lib.hid (g_chain (g_chain B1.out (below_a1 _ _)) hb)
  have X4 := Lib.hid (XP.out.below hb)
  clear hb
  have hp3 := X4.out.cell (i := 3) rfl
  go_wp2_with fail
  refine (CN.out _ B4.out).mono ?_
  rintro e w5 ⟨rfl, hb⟩
  have B5 := Lib.hid (g_chain B4.out hb)
  have X5 := Lib.hid (X4.out.below hb)
  clear hb
  go_wp2_with fail
  refine (CO.out _ B5.out).mono ?_
  rintro e w6 ⟨rfl, hb⟩
  have B6 := Lib.hid (g_chain B5.out hb)
  have X6 := Lib.hid (X5.out.below hb)
  clear hb hp3 X4 X5 B1 B4 B5 hc hf hz
  go_wp2_with (refine wpList_make_full _ rfl (.tmp 48) (.tmp 48) 27 rfl w6.heap.size 3 i0 (.int .i64 0) 1 Tryz.underlying27 hi hz0 hz1 .i64 .i64 _ _ n rfl rfl rfl rfl (by rw [hz2]; omega) (by unfold maxLen; omega) (Nat.le_refl _) ?_; intro w7 hown hg)
  have H7 := Lib.hid (zeros_row (xs := es.map (newEdge 3 next outs)) (by rw [List.length_map]; exact HL.out) hown)
  have B7 : Hid (Below w6.heap.size w6 w7) := Lib.hid ((Below.refl _ _).grown hg (Nat.le_refl _) (by simp))
  clear hown hg
  go_loopw [52] (fun i wr => ∃ k : Nat, k ≤ n ∧ i = .int .i64 (k : Int) ∧ Hid (wr.ownsRow w6.heap.size 3 1 (.slice (some ⟨w6.heap.size, 0, none⟩) n n) n (vi (halfI (es.map (newEdge 3 next outs)) k))) ∧ Hid (Below w6.heap.size w6 wr)) (fun i _ => n - (intOf i).toNat)
  case atStart => exact ⟨0, Nat.zero_le _, rfl, H7, B7⟩
  case round =>
    clear H7 B7
    obtain ⟨k, hk, rfl, hown, hbel⟩ := hrel
    by_cases hlt : k < n
    · obtain ⟨b, off, e, rfl, hbw, he, c0, c1, c2, c3⟩ := HR.out.at_ hlt
      have hbw6 : b < w6.heap.size := by have := B6.out.size; omega
      have c0 := ((hbel.out.cell (p := ⟨b, off + k * 4, none⟩) hbw6).trans (B6.out.cell (p := ⟨b, off + k * 4, none⟩) hbw)).trans c0
      have c1 := ((hbel.out.cell (p := ⟨b, off + k * 4 + 1, none⟩) hbw6).trans (B6.out.cell (p := ⟨b, off + k * 4 + 1, none⟩) hbw)).trans c1
      have c2 := ((hbel.out.cell (p := ⟨b, off + k * 4 + 2, none⟩) hbw6).trans (B6.out.cell (p := ⟨b, off + k * 4 + 2, none⟩) hbw)).trans c2
      have c3 := ((hbel.out.cell (p := ⟨b, off + k * 4 + 3, none⟩) hbw6).trans (B6.out.cell (p := ⟨b, off + k * 4 + 3, none⟩) hbw)).trans c3
      have XR := Lib.hid (X6.out.below hbel.out)
      have XA := Lib.hid (XR.out.alloc (.cells #[.bool e.i, .bool e.o, .int .i64 e.w, .int .i64 e.v] 94))
      have hx4 := XA.out.cell (i := 4) rfl
      have C := Lib.hid (fun W => CE.out e (List.mem_of_getElem? he.out) W)
      have HXS : Hid ((es.map (newEdge 3 next outs))[k]? = some (newEdge 3 next outs e)) := Lib.hid (by rw [List.getElem?_map, he.out]; rfl)
      generalize newEdge 3 next outs e = z at C HXS
      clear he
      go_wp2_with fail
      refine (C.out _).mono ?_
      rintro e1 w8 ⟨rfl, hb⟩
      have B8 := Lib.hid (g_chain (below_a1 wr (.cells #[.bool e.i, .bool e.o, .int .i64 e.w, .int .i64 e.v] 94)) hb)
      have hbl8 := g_chain hbel.out B8.out
      have O8 := own_below hown.out B8.out
      clear hb C
      have hl2 : k < (vi (halfI (es.map (newEdge 3 next outs)) k)).length := by rw [O8.1]; omega
      have hcell2 : w8.cell? ⟨w6.heap.size, k, none⟩ = some (vi (halfI (es.map (newEdge 3 next outs)) k))[k] := by rw [O8.cellAt k (by omega), List.getElem?_eq_getElem hl2]
      have hfr := O8.frozenAt k
      have hst := O8.stored k (.int .i64 z)
      rw [halfI_step _ k z HXS.out] at hst
      have hb9 := Lib.hid (hbl8.setCell (p := ⟨w6.heap.size, k, none⟩) (Nat.le_refl _) (.int .i64 z))
      have hst1 := Lib.hid hst.1
      generalize (vi (halfI (es.map (newEdge 3 next outs)) k))[k] = old at hcell2
      clear hst O8 hl2 hbl8 hx4 XA XR c0 c1 c2 c3
      go_wp2
      go_roundw
      case rel => exact ⟨k + 1, by omega, by go_num, hst1, hb9⟩
      case measure => simp [intOf]; omega
    · obtain rfl : k = n := by omega
      have HFIN : Hid (wr.ownsRow w.heap.size 3 1 (.slice (some ⟨w6.heap.size, 0, none⟩) (es.map (newEdge 3 next outs)).length k) (es.map (newEdge 3 next outs)).length (vi (es.map (newEdge 3 next outs)))) := Lib.hid (by
        have e : (es.map (newEdge 3 next outs)).length = k := by rw [List.length_map]; exact HL.out
        have h3 : halfI (es.map (newEdge 3 next outs)) k = es.map (newEdge 3 next outs) := by rw [← e]; exact halfI_full _
        have h := hown.out
        rw [h3] at h
        rw [e]
        exact own_monoG h B6.out.size)
      have HBF := Lib.hid (g_chain B6.out hbel.out)
      have HLM : Hid ((es.map (newEdge 3 next outs)).length = k) := Lib.hid (by rw [List.length_map]; exact HL.out)
      clear hown hbel
      go_wp2
      go_ret2
      exact ⟨some ⟨w6.heap.size, 0, none⟩, k, by rw [HLM.out]; rfl, HFIN.out, HBF.out⟩
set_option maxRecDepth 20000 in
set_option maxHeartbeats 8000000 in
theorem updI_4 (s v x : Int) (A : Option Addr) (n c : Nat) (es : List VE) (w : World) (hr : SlV w A n es) (hn : n ≤ 1048576) :
    Calls Tryz.prog 64 #[.agg #[.int .i64 4, .int .i64 s], .int .i64 v, .int .i64 x, .slice A n c] w (MadeU w (updV 4 v x es) (updE 4 v x es)) := by
  obtain ⟨i0, hi, hz0, hz1, hz2⟩ := info_parts Tryz.infoInt
  have HR := Lib.hid hr
  have HL := Lib.hid hr.len
  clear hr
  have CP := Lib.hid (fun W => progOf_4 W)
  unfold GivesP prog4 at CP
  have CV := Lib.hid (fun W => implIsVertex v W)
  have CX := Lib.hid (fun W => implIsValue x W)
  have CL := Lib.hid (fun W (h : Below w.heap.size w W) => implViewsOk A n c es W (HR.out.below h) (by omega))
  cases hv : vtxB v with
  | false =>
    have hno := upd_no (p := 4) (v := v) (x := x) (es := es) (by unfold updB; rw [hv]; simp)
    rw [hno.1, hno.2]
    rw [hv] at CV
    clear hno hv CX CL
    go_enter Tryz.func64, Tryz.ntmps64
    go_wp2_with fail
    refine (CP.out _).mono ?_
    rintro e w1 ⟨rfl, hb⟩
    have B1 := Lib.hid (g_chain (below_a1 w (.cells #[.int .i64 4, .int .i64 s] 36)) hb)
    obtain ⟨hc, hf⟩ := bcell hb
    have hz : w.heap.size < w1.heap.size := by have := hb.size; simp at this; omega
    have XP := Lib.hid (Blk.new w1 #[.func (.func 92) #[] #[], .func (.func 97) #[] #[], .func (.func 105) #[] #[], .func (.func 106) #[] #[], .func (.func 107) #[] #[]] 110)
    clear hb
    go_wp2_with fail
    refine (CV.out _).mono ?_
    rintro e w2 ⟨rfl, rfl⟩
    go_wp2
    go_ret2
    exact MadeU.no (g_chain B1.out (below_a1 _ _))
  | true =>
  rw [hv] at CV
  cases hx : valB x with
  | false =>
    have hno := upd_no (p := 4) (v := v) (x := x) (es := es) (by unfold updB; rw [hx]; simp)
    rw [hno.1, hno.2]
    rw [hx] at CX
    clear hno hv hx CL
    go_enter Tryz.func64, Tryz.ntmps64
    go_wp2_with fail
    refine (CP.out _).mono ?_
    rintro e w1 ⟨rfl, hb⟩
    have B1 := Lib.hid (g_chain (below_a1 w (.cells #[.int .i64 4, .int .i64 s] 36)) hb)
    obtain ⟨hc, hf⟩ := bcell hb
    have hz : w.heap.size < w1.heap.size := by have := hb.size; simp at this; omega
    have XP := Lib.hid (Blk.new w1 #[.func (.func 92) #[] #[], .func (.func 97) #[] #[], .func (.func 105) #[] #[], .func (.func 106) #[] #[], .func (.func 107) #[] #[]] 110)
    clear hb
    go_wp2_with fail
    refine (CV.out _).mono ?_
    rintro e w2 ⟨rfl, rfl⟩
    go_wp2_with fail
    refine (CX.out _).mono ?_
    rintro e w3 ⟨rfl, rfl⟩
    go_wp2
    go_ret2
    exact MadeU.no (g_chain B1.out (below_a1 _ _))
  | true =>
  rw [hx] at CX
  cases hl : viewsB es with
  | false =>
    have hno := upd_no (p := 4) (v := v) (x := x) (es := es) (by unfold updB; rw [hl]; simp)
    rw [hno.1, hno.2]
    rw [hl] at CL
    clear hno hv hx hl
    go_enter Tryz.func64, Tryz.ntmps64
    go_wp2_with fail
    refine (CP.out _).mono ?_
    rintro e w1 ⟨rfl, hb⟩
    have B1 := Lib.hid (g_chain (below_a1 w (.cells #[.int .i64 4, .int .i64 s] 36)) hb)
    obtain ⟨hc, hf⟩ := bcell hb
    have hz : w.heap.size < w1.heap.size := by have := hb.size; simp at this; omega
    have XP := Lib.hid (Blk.new w1 #[.func (.func 92) #[] #[], .func (.func 97) #[] #[], .func (.func 105) #[] #[], .func (.func 106) #[] #[], .func (.func 107) #[] #[]] 110)
    clear hb
    go_wp2_with fail
    refine (CV.out _).mono ?_
    rintro e w2 ⟨rfl, rfl⟩
    go_wp2_with fail
    refine (CX.out _).mono ?_
    rintro e w3 ⟨rfl, rfl⟩
    go_wp2_with fail
    refine (CL.out _ (g_chain B1.out (below_a1 _ _))).mono ?_
    rintro e w4 ⟨rfl, hb⟩
    have B4 := Lib.hid (g_chain (g_chain B1.out (below_a1 _ _)) hb)
    have X4 := Lib.hid (XP.out.below hb)
    clear hb
    go_wp2
    go_ret2
    exact MadeU.no B4.out
  | true =>
  rw [hl] at CL
  have hyes : updB 4 v x es = true := by unfold updB; rw [hv, hx, hl]; rfl
  have HU := updB_is hyes
  have hy := upd_yes hyes
  rw [hy.1, hy.2]
  have HVV : Hid (∀ e ∈ es, 0 ≤ e.v ∧ e.v ≤ 1099511627776) := Lib.hid (fun e he => by have := VE.ok_lim (HU.2.2.2.2 e he); omega)
  have HNX := Lib.hid (newVal_lim (p := 4) HU.2.2.1 HU.2.2.2.2)
  have HOP : Hid (∀ e ∈ es, e.o = true → 0 < outsN es) := Lib.hid (fun e he ho => outsN_pos he ho)
  have CN := Lib.hid (fun W (h : Below w.heap.size w W) => implNewLabel x A n c es W (HR.out.below h) (by omega) HVV.out)
  have CO := Lib.hid (fun W (h : Below w.heap.size w W) => implCountOuts A n c es W (HR.out.below h) (by omega))
  have hnv : newVal 4 x es = mostR (told es) x := by unfold newVal; simp
  rw [← hnv] at CN
  clear hnv hy hyes HU hv hx hl
  generalize newVal 4 x es = next at CN HNX ⊢
  generalize outsN es = outs at CO HOP ⊢
  have CE := Lib.hid (fun (e : VE) (he : e ∈ es) W => edgeI_4 e next outs W HNX.out (HVV.out e he))
  unfold VE.val at CE
  clear HNX HOP HVV
  go_enter Tryz.func64, Tryz.ntmps64
  go_wp2_with fail
  refine (CP.out _).mono ?_
  rintro e w1 ⟨rfl, hb⟩
  have B1 := Lib.hid (g_chain (below_a1 w (.cells #[.int .i64 4, .int .i64 s] 36)) hb)
  obtain ⟨hc, hf⟩ := bcell hb
  have hz : w.heap.size < w1.heap.size := by have := hb.size; simp at this; omega
  have XP := Lib.hid (Blk.new w1 #[.func (.func 92) #[] #[], .func (.func 97) #[] #[], .func (.func 105) #[] #[], .func (.func 106) #[] #[], .func (.func 107) #[] #[]] 110)
  clear hb
  go_wp2_with fail
  refine (CV.out _).mono ?_
  rintro e w2 ⟨rfl, rfl⟩
  go_wp2_with fail
  refine (CX.out _).mono ?_
  rintro e w3 ⟨rfl, rfl⟩
  go_wp2_with fail
  refine (CL.out _ (g_chain B1.out (below_a1 _ _))).mono ?_
  rintro e w4 ⟨rfl, hb⟩
  have B4 := Lib.hid (g_chain (g_chain B1.out (below_a1 _ _)) hb)
  have X4 := Lib.hid (XP.out.below hb)
  clear hb
  have hp3 := X4.out.cell (i := 3) rfl
  go_wp2_with fail
  refine (CN.out _ B4.out).mono ?_
  rintro e w5 ⟨rfl, hb⟩
  have B5 := Lib.hid (g_chain B4.out hb)
  have X5 := Lib.hid (X4.out.below hb)
  clear hb
  go_wp2_with fail
  refine (CO.out _ B5.out).mono ?_
  rintro e w6 ⟨rfl, hb⟩
  have B6 := Lib.hid (g_chain B5.out hb)
  have X6 := Lib.hid (X5.out.below hb)
  clear hb hp3 X4 X5 B1 B4 B5 hc hf hz
  go_wp2_with (refine wpList_make_full _ rfl (.tmp 48) (.tmp 48) 27 rfl w6.heap.size 3 i0 (.int .i64 0) 1 Tryz.underlying27 hi hz0 hz1 .i64 .i64 _ _ n rfl rfl rfl rfl (by rw [hz2]; omega) (by unfold maxLen; omega) (Nat.le_refl _) ?_; intro w7 hown hg)
  have H7 := Lib.hid (zeros_row (xs := es.map (newEdge 4 next outs)) (by rw [List.length_map]; exact HL.out) hown)
  have B7 : Hid (Below w6.heap.size w6 w7) := Lib.hid ((Below.refl _ _).grown hg (Nat.le_refl _) (by simp))
  clear hown hg
  go_loopw [52] (fun i wr => ∃ k : Nat, k ≤ n ∧ i = .int .i64 (k : Int) ∧ Hid (wr.ownsRow w6.heap.size 3 1 (.slice (some ⟨w6.heap.size, 0, none⟩) n n) n (vi (halfI (es.map (newEdge 4 next outs)) k))) ∧ Hid (Below w6.heap.size w6 wr)) (fun i _ => n - (intOf i).toNat)
  case atStart => exact ⟨0, Nat.zero_le _, rfl, H7, B7⟩
  case round =>
    clear H7 B7
    obtain ⟨k, hk, rfl, hown, hbel⟩ := hrel
    by_cases hlt : k < n
    · obtain ⟨b, off, e, rfl, hbw, he, c0, c1, c2, c3⟩ := HR.out.at_ hlt
      have hbw6 : b < w6.heap.size := by have := B6.out.size; omega
      have c0 := ((hbel.out.cell (p := ⟨b, off + k * 4, none⟩) hbw6).trans (B6.out.cell (p := ⟨b, off + k * 4, none⟩) hbw)).trans c0
      have c1 := ((hbel.out.cell (p := ⟨b, off + k * 4 + 1, none⟩) hbw6).trans (B6.out.cell (p := ⟨b, off + k * 4 + 1, none⟩) hbw)).trans c1
      have c2 := ((hbel.out.cell (p := ⟨b, off + k * 4 + 2, none⟩) hbw6).trans (B6.out.cell (p := ⟨b, off + k * 4 + 2, none⟩) hbw)).trans c2
      have c3 := ((hbel.out.cell (p := ⟨b, off + k * 4 + 3, none⟩) hbw6).trans (B6.out.cell (p := ⟨b, off + k * 4 + 3, none⟩) hbw)).trans c3
      have XR := Lib.hid (X6.out.below hbel.out)
      have XA := Lib.hid (XR.out.alloc (.cells #[.bool e.i, .bool e.o, .int .i64 e.w, .int .i64 e.v] 94))
      have hx4 := XA.out.cell (i := 4) rfl
      have C := Lib.hid (fun W => CE.out e (List.mem_of_getElem? he.out) W)
      have HXS : Hid ((es.map (newEdge 4 next outs))[k]? = some (newEdge 4 next outs e)) := Lib.hid (by rw [List.getElem?_map, he.out]; rfl)
      generalize newEdge 4 next outs e = z at C HXS
      clear he
      go_wp2_with fail
      refine (C.out _).mono ?_
      rintro e1 w8 ⟨rfl, hb⟩
      have B8 := Lib.hid (g_chain (below_a1 wr (.cells #[.bool e.i, .bool e.o, .int .i64 e.w, .int .i64 e.v] 94)) hb)
      have hbl8 := g_chain hbel.out B8.out
      have O8 := own_below hown.out B8.out
      clear hb C
      have hl2 : k < (vi (halfI (es.map (newEdge 4 next outs)) k)).length := by rw [O8.1]; omega
      have hcell2 : w8.cell? ⟨w6.heap.size, k, none⟩ = some (vi (halfI (es.map (newEdge 4 next outs)) k))[k] := by rw [O8.cellAt k (by omega), List.getElem?_eq_getElem hl2]
      have hfr := O8.frozenAt k
      have hst := O8.stored k (.int .i64 z)
      rw [halfI_step _ k z HXS.out] at hst
      have hb9 := Lib.hid (hbl8.setCell (p := ⟨w6.heap.size, k, none⟩) (Nat.le_refl _) (.int .i64 z))
      have hst1 := Lib.hid hst.1
      generalize (vi (halfI (es.map (newEdge 4 next outs)) k))[k] = old at hcell2
      clear hst O8 hl2 hbl8 hx4 XA XR c0 c1 c2 c3
      go_wp2
      go_roundw
      case rel => exact ⟨k + 1, by omega, by go_num, hst1, hb9⟩
      case measure => simp [intOf]; omega
    · obtain rfl : k = n := by omega
      have HFIN : Hid (wr.ownsRow w.heap.size 3 1 (.slice (some ⟨w6.heap.size, 0, none⟩) (es.map (newEdge 4 next outs)).length k) (es.map (newEdge 4 next outs)).length (vi (es.map (newEdge 4 next outs)))) := Lib.hid (by
        have e : (es.map (newEdge 4 next outs)).length = k := by rw [List.length_map]; exact HL.out
        have h3 : halfI (es.map (newEdge 4 next outs)) k = es.map (newEdge 4 next outs) := by rw [← e]; exact halfI_full _
        have h := hown.out
        rw [h3] at h
        rw [e]
        exact own_monoG h B6.out.size)
      have HBF := Lib.hid (g_chain B6.out hbel.out)
      have HLM : Hid ((es.map (newEdge 4 next outs)).length = k) := Lib.hid (by rw [List.length_map]; exact HL.out)
      clear hown hbel
      go_wp2
      go_ret2
      exact ⟨some ⟨w6.heap.size, 0, none⟩, k, by rw [HLM.out]; rfl, HFIN.out, HBF.out⟩
theorem implUpdate (p s v x : Int) (A : Option Addr) (n c : Nat) (es : List VE) (w : World) (hr : SlV w A n es) (hn : n ≤ 1048576) :
    Calls Tryz.prog 64 #[.agg #[.int .i64 p, .int .i64 s], .int .i64 v, .int .i64 x, .slice A n c] w (MadeU w (updV p v x es) (updE p v x es)) := by
  rcases prog_cases p with h | rfl | rfl | rfl | rfl
  · exact updI_none p s v x A n c es w h
  · exact updI_1 s v x A n c es w hr hn
  · exact updI_2 s v x A n c es w hr hn
  · exact updI_3 s v x A n c es w hr hn
  · exact updI_4 s v x A n c es w hr hn
end Go.Proofs.YtpgnappddddlpaaGreatDoor
