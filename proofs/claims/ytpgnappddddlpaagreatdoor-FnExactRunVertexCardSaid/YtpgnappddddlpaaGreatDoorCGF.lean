/- The contract of the program's method views: the views of a vertex, and where they stand. Condition: at most 2^20 edges, as many values. // The contracts of the program's AddCap, isVertex, isValue and of the model's like ones. No condition. // Storing a function value or none into a cell (plain lemmas over the model; no condition). // The contracts of the program's programOf (what a number's program is made of) and of its small functions. No condition but that a divisor is not 0. // The contracts of the program's JobOk, FirstVal and FirstEdge. Condition: the arguments are numbers of 64 bits. // The contracts of the program's new values (ranks, components, distances), of its count of Out edges and of its test of views. Condition: at most 2^21 views. // The contracts of the model's new values (ranks, components and distances). Condition: at most 2^21 views. -/
import Derived.Test.YtpgnappddddlpaaGreatDoorCGE
import Derived.Test.YtpgnappddddlpaaGreatDoorCGB
import Derived.RegionTactic
import Derived.Deep.RegionWith
import Derived.BigRegion
import Derived.Deep.Cut
import Derived.Deep.RegionLaw
import Derived.Deep.RegionHeld3
import Derived.StillTailTactics
import Derived.Test.YtpgnappddddlpaaGreatDoorCGA
import Derived.Deep.DeepCutAuto
import Derived.Deep.WholeRow
import Derived.Laws.Tables
import Derived.Test.YtpgnappddddlpaaGreatDoorCGD
namespace Go.Proofs.YtpgnappddddlpaaGreatDoor
open Go.RowKit
set_option linter.unusedVariables false

set_option maxRecDepth 20000 in
set_option maxHeartbeats 8000000 in
theorem implViewsOf (b : Nat) (N : Int) (AG : Option Addr) (l cG : Nat) (G : List GE) (v p s it : Int) (dn : Bool) (A : Option Addr) (n c : Nat) (B : Option Addr) (m d : Nat) (nn : Int) (C : Option Addr) (j k0 : Nat) (ev : List Int) (w : World) (hb : Blk w b #[.int .i64 p, .int .i64 s, .int .i64 it, .bool dn, .slice A n c, .slice B m d, .int .i64 nn, .slice C j k0] 39) (hg : SlG w AG l G) (he : SlI w B m ev) (hm : l ≤ m) (hl : l ≤ 1048576) :
    Calls Tryz.prog 63 #[.pointer (some ⟨b, 0, none⟩), .agg #[.int .i64 N, .slice AG l cG], .int .i64 v] w (MadeVI w (viewsT G ev v l) (idxT G v l)) := by
  obtain ⟨i0, hi, hz0, hz1, hz2⟩ := info_parts Tryz.infoInt
  obtain ⟨j0, hj, jz0, jz1, jz2⟩ := info_parts Tryz.infoView
  have HG := Lib.hid hg
  have HE := Lib.hid he
  have HF : Hid (∀ k, viewsT G ev v k = (idxT G v k).map (viewAt G ev v)) := Lib.hid (fun _ => rfl)
  have HB := Lib.hid (hb.alloc (.cells #[.int .i64 N, .slice AG l cG] 44))
  have HST : Hid (VSt w (w.alloc (.cells #[.int .i64 N, .slice AG l cG] 44)) none 0 none 0 [] []) := Lib.hid ⟨World.ownsRow_nil _ _ _ _, World.ownsRow_nil _ _ _ _, below_a1 _ _⟩
  clear hb hg he
  have HL0 : Hid (idxT G v 0 = []) := Lib.hid rfl
  go_enter Tryz.func63, Tryz.ntmps63
  go_wp2
  go_loopw [8, 9, 17] (fun o1 o2 i wr => ∃ (k : Nat) (A1 : Option Addr) (c1 : Nat) (A2 : Option Addr) (c2 : Nat), k ≤ l ∧ i = .int .i64 (k : Int) ∧ o1 = .slice A1 (idxT G v k).length c1 ∧ o2 = .slice A2 (idxT G v k).length c2 ∧ Hid (Blk wr (b) #[.int .i64 p, .int .i64 s, .int .i64 it, .bool dn, .slice A n c, .slice B m d, .int .i64 nn, .slice C j k0] 39) ∧ Hid (VSt w wr A1 c1 A2 c2 (viewsT G ev v k) (idxT G v k))) (fun _ _ i _ => l - (intOf i).toNat)
  case atStart => exact ⟨0, none, 0, none, 0, Nat.zero_le _, rfl, rfl, rfl, HB, HST⟩
  case round =>
    clear HB HST HL0
    obtain ⟨k, A1, c1, A2, c2, hk, rfl, rfl, rfl, hbx, hst⟩ := hrel
    have hlen := idx_len G v k
    rw [HF.out] at hst
    obtain ⟨ms, HMS⟩ : ∃ ms, Hid (idxT G v k = ms) := ⟨_, Lib.hid rfl⟩
    rw [HMS.out] at hst hlen ⊢
    by_cases hlt : k < l
    · have hml : ms.length ≤ 1048576 := by omega
      clear hlen
      obtain ⟨gb, goff, e, rfl, hgbw, he, c0, c1', c2'⟩ := HG.out.at_ hlt
      obtain ⟨eb, eoff, x, rfl, hebw, hx, d0⟩ := HE.out.at_ (Nat.lt_of_lt_of_le hlt hm)
      have c0 := (hst.out.h.cell (p := ⟨gb, goff + k * 3, none⟩) hgbw).trans c0
      have c1' := (hst.out.h.cell (p := ⟨gb, goff + k * 3 + 1, none⟩) hgbw).trans c1'
      have c2' := (hst.out.h.cell (p := ⟨gb, goff + k * 3 + 2, none⟩) hgbw).trans c2'
      have HD := Lib.hid d0
      have HW := Lib.hid hst.out.h.size
      have HBA := Lib.hid (below_a1 wr (.cells #[.int .i64 e.f, .int .i64 e.t, .int .i64 e.w] 86))
      have EB := Lib.hid (Blk.new wr #[.int .i64 e.f, .int .i64 e.t, .int .i64 e.w] 86)
      have HLE := Lib.hid (Blk.lt EB.out)
      have RB := Lib.hid (hbx.out.below HBA.out)
      have ST := Lib.hid (hst.out.below HBA.out)
      have D1 := Lib.hid (((hst.out.h.cell (p := ⟨eb, eoff + k, none⟩) hebw).trans HD.out))
      have D2 := Lib.hid ((HBA.out.cell (p := ⟨eb, eoff + k, none⟩) (by show eb < _; have := HW.out; omega)).trans D1.out)
      have hkm : k < m := by omega
      clear d0 HD D1
      have e0 := EB.out.cell (i := 0) rfl
      have e1 := EB.out.cell (i := 1) rfl
      have e2 := EB.out.cell (i := 2) rfl
      have f0 := EB.out.frozen 0
      have f1 := EB.out.frozen 1
      have f2 := EB.out.frozen 2
      by_cases hf : e.f = v
      · have hf1 : (e.f == v) = true := by simp [hf]
        have HFF := Lib.hid hf
        clear hf
        by_cases ht : e.t = v
        · have ht1 : (e.t == v) = true := by simp [ht]
          have HTT := Lib.hid ht
          clear ht
          have HIX := Lib.hid (idx_yes he.out (.inl HFF.out))
          have HVX : Hid (viewAt G ev v k = ⟨true, true, e.w, x⟩) := Lib.hid (by rw [viewAt_is he.out hx.out]; simp [HTT.out, HFF.out])
          go_wp2
          go_quiet (fail)
          go_upto_region 8 with fail
          replace RB := Lib.hid (RB.out.drewN nq)
          replace EB := Lib.hid (EB.out.drewN nq)
          replace ST := Lib.hid (ST.out.drewN nq)
          replace D2 : Hid ((World.drewN (wr.alloc (.cells #[.int .i64 e.f, .int .i64 e.t, .int .i64 e.w] 86)) nq).cell? ⟨eb, eoff + k, none⟩ = some (.int .i64 x)) := Lib.hid D2.out
          clear c0 c1' c2' e0 e1 e2 f0 f1 f2 hst hbx HBA
          have hw4 : w.heap.size ≤ (World.drewN (wr.alloc (.cells #[.int .i64 e.f, .int .i64 e.t, .int .i64 e.w] 86)) nq).heap.size := by have := HW.out; simp; omega
          have HLP : Hid (wr.heap.size < (World.drewN (wr.alloc (.cells #[.int .i64 e.f, .int .i64 e.t, .int .i64 e.w] 86)) nq).heap.size) := Lib.hid (by simp)
          generalize hWW : (World.drewN (wr.alloc (.cells #[.int .i64 e.f, .int .i64 e.t, .int .i64 e.w] 86)) nq) = W4 at RB ST D2 EB HLP hw4 ⊢
          clear hWW HLE
          have r5 := RB.out.cell (i := 5) rfl
          have rl := RB.out.lt
          have x0 := D2.out
          have e0 := EB.out.cell (i := 0) rfl
          have e1 := EB.out.cell (i := 1) rfl
          have e2 := EB.out.cell (i := 2) rfl
          have hel := HLP.out
          have OV0 := Lib.hid ST.out.v
          go_region_law (refine step_append_any _ (by rfl) (.tmp 34) (.tmp 47) _ (by rfl) w.heap.size 94 j0 _ 4 24 Tryz.underlying79 hj jz0 jz1 jz2 rfl (by omega) (.slice A1 ms.length c1) ms.length ((ms.map (viewAt G ev v)).flatMap VE.cells) (by rfl) (by first | exact ST.out.v.alloc _ | exact ST.out.drew.v.alloc _ | exact (ST.out.alloc _).drew.v) (W4.heap.size + 1) (some ⟨W4.heap.size, 0, none⟩) 1 1 (VE.cells ⟨true, true, e.w, x⟩) (by rfl) (by first | exact vw_reads _ ⟨true, true, e.w, x⟩ _ _ rfl) (VE.cells_one _) (by simp only [maxLen]; omega) (by omega) (by simp; omega) ?_; intro v3 w3 hown3 hg3 hat3; obtain ⟨P3, c3, rfl, -⟩ := own_formG hown3)
          all_goals
            have hgq : (W4.alloc (.cells #[.bool true, .bool true, .int .i64 e.w, .int .i64 x] 94)).grownBy w3 (Value.slice A1 ms.length c1).ownBlock := ⟨hg3.os, hg3.tape, hg3.output, hg3.size, hg3.block⟩
            have HGV := Lib.hid (VSt.gotV (e := ⟨true, true, e.w, x⟩) ST.out hgq (by simpa using hown3))
            have HS3 := Lib.hid hg3.size
            have RB3 := Lib.hid ((RB.out.alloc (.cells #[.bool true, .bool true, .int .i64 e.w, .int .i64 x] 94)).grown hgq (own_kind ST.out.v RB.out (by decide)))
            clear hown3 hg3 hgq hat3 ST RB EB r5 rl x0 e0 e1 e2 OV0
            obtain ⟨hgv, hgi, hgb⟩ := HGV.out
            have HV3 := Lib.hid hgv
            have HI3 := Lib.hid hgi
            have HB3 := Lib.hid hgb
            have hw3 := HB3.out.size
            clear hgv hgi hgb HGV
            go_wp2_with (at_builtin; refine wpList_append_any _ rfl (.tmp 49) (.tmp 51) _ rfl w.heap.size 3 i0 _ 1 8 Tryz.underlying27 hi hz0 hz1 hz2 rfl (by omega) (.slice A2 ms.length c2) ms.length (vi (zI ms)) rfl (HI3.out.alloc (.cells #[.int .i64 (k : Int)] 3)) (w3.heap.size + 1) (some ⟨w3.heap.size, 0, none⟩) 1 1 [.int .i64 (k : Int)] rfl (lab_reads _ _ _ _ (by simp)) (lab_one _) (by simp only [maxLen]; omega) (by omega) (by simp; omega) ?_)
            intro v5 w5 hown5 hg5 hat5
            obtain ⟨P5, c5, rfl, -⟩ := own_formG hown5
            have HN : Hid (VSt w w5 P3 c3 P5 c5 (ms.map (viewAt G ev v) ++ [⟨true, true, e.w, x⟩]) (ms ++ [k])) := Lib.hid (VSt.gotI HV3.out HI3.out HB3.out rfl hg5 (by simpa using hown5))
            have RB5 := Lib.hid ((RB3.out.alloc (.cells #[.int .i64 (k : Int)] 3)).grown hg5 (own_kind HI3.out RB3.out (by decide)))
            clear hown5 hg5 hat5 HV3 HI3 HB3 RB3
            have hln : (ms ++ [k]).length = ms.length + 1 := by simp
            have HFN : Hid (viewsT G ev v (k + 1) = ms.map (viewAt G ev v) ++ [⟨true, true, e.w, x⟩]) := Lib.hid (by rw [HF.out, HIX.out, HMS.out, List.map_append, List.map_cons, HVX.out]; rfl)
            have HIN : Hid (idxT G v (k + 1) = ms ++ [k]) := Lib.hid (by rw [HIX.out, HMS.out])
            go_wp2
            go_roundw
            case rel => exact ⟨k + 1, P3, c3, P5, c5, by omega, by go_num, by rw [HIN.out, hln], by rw [HIN.out, hln], RB5, by rw [HIN.out, HFN.out]; exact HN⟩
            case measure => simp [intOf]; omega
        · have ht1 : (e.t == v) = false := by simp [ht]
          have HTT := Lib.hid ht
          clear ht
          have HIX := Lib.hid (idx_yes he.out (.inl HFF.out))
          have HVX : Hid (viewAt G ev v k = ⟨false, true, e.w, x⟩) := Lib.hid (by rw [viewAt_is he.out hx.out]; simp [HTT.out, HFF.out])
          go_wp2
          go_quiet (fail)
          go_upto_region 8 with fail
          replace RB := Lib.hid (RB.out.drewN nq)
          replace EB := Lib.hid (EB.out.drewN nq)
          replace ST := Lib.hid (ST.out.drewN nq)
          replace D2 : Hid ((World.drewN (wr.alloc (.cells #[.int .i64 e.f, .int .i64 e.t, .int .i64 e.w] 86)) nq).cell? ⟨eb, eoff + k, none⟩ = some (.int .i64 x)) := Lib.hid D2.out
          clear c0 c1' c2' e0 e1 e2 f0 f1 f2 hst hbx HBA
          have hw4 : w.heap.size ≤ (World.drewN (wr.alloc (.cells #[.int .i64 e.f, .int .i64 e.t, .int .i64 e.w] 86)) nq).heap.size := by have := HW.out; simp; omega
          have HLP : Hid (wr.heap.size < (World.drewN (wr.alloc (.cells #[.int .i64 e.f, .int .i64 e.t, .int .i64 e.w] 86)) nq).heap.size) := Lib.hid (by simp)
          generalize hWW : (World.drewN (wr.alloc (.cells #[.int .i64 e.f, .int .i64 e.t, .int .i64 e.w] 86)) nq) = W4 at RB ST D2 EB HLP hw4 ⊢
          clear hWW HLE
          have r5 := RB.out.cell (i := 5) rfl
          have rl := RB.out.lt
          have x0 := D2.out
          have e0 := EB.out.cell (i := 0) rfl
          have e1 := EB.out.cell (i := 1) rfl
          have e2 := EB.out.cell (i := 2) rfl
          have hel := HLP.out
          have OV0 := Lib.hid ST.out.v
          go_region_law (refine step_append_any _ (by rfl) (.tmp 34) (.tmp 47) _ (by rfl) w.heap.size 94 j0 _ 4 24 Tryz.underlying79 hj jz0 jz1 jz2 rfl (by omega) (.slice A1 ms.length c1) ms.length ((ms.map (viewAt G ev v)).flatMap VE.cells) (by rfl) (by first | exact ST.out.v.alloc _ | exact ST.out.drew.v.alloc _ | exact (ST.out.alloc _).drew.v) (W4.heap.size + 1) (some ⟨W4.heap.size, 0, none⟩) 1 1 (VE.cells ⟨false, true, e.w, x⟩) (by rfl) (by first | exact vw_reads _ ⟨false, true, e.w, x⟩ _ _ rfl) (VE.cells_one _) (by simp only [maxLen]; omega) (by omega) (by simp; omega) ?_; intro v3 w3 hown3 hg3 hat3; obtain ⟨P3, c3, rfl, -⟩ := own_formG hown3)
          all_goals
            have hgq : (W4.alloc (.cells #[.bool false, .bool true, .int .i64 e.w, .int .i64 x] 94)).grownBy w3 (Value.slice A1 ms.length c1).ownBlock := ⟨hg3.os, hg3.tape, hg3.output, hg3.size, hg3.block⟩
            have HGV := Lib.hid (VSt.gotV (e := ⟨false, true, e.w, x⟩) ST.out hgq (by simpa using hown3))
            have HS3 := Lib.hid hg3.size
            have RB3 := Lib.hid ((RB.out.alloc (.cells #[.bool false, .bool true, .int .i64 e.w, .int .i64 x] 94)).grown hgq (own_kind ST.out.v RB.out (by decide)))
            clear hown3 hg3 hgq hat3 ST RB EB r5 rl x0 e0 e1 e2 OV0
            obtain ⟨hgv, hgi, hgb⟩ := HGV.out
            have HV3 := Lib.hid hgv
            have HI3 := Lib.hid hgi
            have HB3 := Lib.hid hgb
            have hw3 := HB3.out.size
            clear hgv hgi hgb HGV
            go_wp2_with (at_builtin; refine wpList_append_any _ rfl (.tmp 49) (.tmp 51) _ rfl w.heap.size 3 i0 _ 1 8 Tryz.underlying27 hi hz0 hz1 hz2 rfl (by omega) (.slice A2 ms.length c2) ms.length (vi (zI ms)) rfl (HI3.out.alloc (.cells #[.int .i64 (k : Int)] 3)) (w3.heap.size + 1) (some ⟨w3.heap.size, 0, none⟩) 1 1 [.int .i64 (k : Int)] rfl (lab_reads _ _ _ _ (by simp)) (lab_one _) (by simp only [maxLen]; omega) (by omega) (by simp; omega) ?_)
            intro v5 w5 hown5 hg5 hat5
            obtain ⟨P5, c5, rfl, -⟩ := own_formG hown5
            have HN : Hid (VSt w w5 P3 c3 P5 c5 (ms.map (viewAt G ev v) ++ [⟨false, true, e.w, x⟩]) (ms ++ [k])) := Lib.hid (VSt.gotI HV3.out HI3.out HB3.out rfl hg5 (by simpa using hown5))
            have RB5 := Lib.hid ((RB3.out.alloc (.cells #[.int .i64 (k : Int)] 3)).grown hg5 (own_kind HI3.out RB3.out (by decide)))
            clear hown5 hg5 hat5 HV3 HI3 HB3 RB3
            have hln : (ms ++ [k]).length = ms.length + 1 := by simp
            have HFN : Hid (viewsT G ev v (k + 1) = ms.map (viewAt G ev v) ++ [⟨false, true, e.w, x⟩]) := Lib.hid (by rw [HF.out, HIX.out, HMS.out, List.map_append, List.map_cons, HVX.out]; rfl)
            have HIN : Hid (idxT G v (k + 1) = ms ++ [k]) := Lib.hid (by rw [HIX.out, HMS.out])
            go_wp2
            go_roundw
            case rel => exact ⟨k + 1, P3, c3, P5, c5, by omega, by go_num, by rw [HIN.out, hln], by rw [HIN.out, hln], RB5, by rw [HIN.out, HFN.out]; exact HN⟩
            case measure => simp [intOf]; omega
      · have hf1 : (e.f == v) = false := by simp [hf]
        have HFF := Lib.hid hf
        clear hf
        by_cases ht : e.t = v
        · have ht1 : (e.t == v) = true := by simp [ht]
          have HTT := Lib.hid ht
          clear ht
          have HIX := Lib.hid (idx_yes he.out (.inr HTT.out))
          have HVX : Hid (viewAt G ev v k = ⟨true, false, e.w, x⟩) := Lib.hid (by rw [viewAt_is he.out hx.out]; simp [HTT.out, HFF.out])
          go_wp2
          go_quiet (fail)
          go_upto_region 8 with fail
          replace RB := Lib.hid (RB.out.drewN nq)
          replace EB := Lib.hid (EB.out.drewN nq)
          replace ST := Lib.hid (ST.out.drewN nq)
          replace D2 : Hid ((World.drewN (wr.alloc (.cells #[.int .i64 e.f, .int .i64 e.t, .int .i64 e.w] 86)) nq).cell? ⟨eb, eoff + k, none⟩ = some (.int .i64 x)) := Lib.hid D2.out
          clear c0 c1' c2' e0 e1 e2 f0 f1 f2 hst hbx HBA
          have hw4 : w.heap.size ≤ (World.drewN (wr.alloc (.cells #[.int .i64 e.f, .int .i64 e.t, .int .i64 e.w] 86)) nq).heap.size := by have := HW.out; simp; omega
          have HLP : Hid (wr.heap.size < (World.drewN (wr.alloc (.cells #[.int .i64 e.f, .int .i64 e.t, .int .i64 e.w] 86)) nq).heap.size) := Lib.hid (by simp)
          generalize hWW : (World.drewN (wr.alloc (.cells #[.int .i64 e.f, .int .i64 e.t, .int .i64 e.w] 86)) nq) = W4 at RB ST D2 EB HLP hw4 ⊢
          clear hWW HLE
          have r5 := RB.out.cell (i := 5) rfl
          have rl := RB.out.lt
          have x0 := D2.out
          have e0 := EB.out.cell (i := 0) rfl
          have e1 := EB.out.cell (i := 1) rfl
          have e2 := EB.out.cell (i := 2) rfl
          have hel := HLP.out
          have OV0 := Lib.hid ST.out.v
          go_region_law (refine step_append_any _ (by rfl) (.tmp 34) (.tmp 47) _ (by rfl) w.heap.size 94 j0 _ 4 24 Tryz.underlying79 hj jz0 jz1 jz2 rfl (by omega) (.slice A1 ms.length c1) ms.length ((ms.map (viewAt G ev v)).flatMap VE.cells) (by rfl) (by first | exact ST.out.v.alloc _ | exact ST.out.drew.v.alloc _ | exact (ST.out.alloc _).drew.v) (W4.heap.size + 1) (some ⟨W4.heap.size, 0, none⟩) 1 1 (VE.cells ⟨true, false, e.w, x⟩) (by rfl) (by first | exact vw_reads _ ⟨true, false, e.w, x⟩ _ _ rfl) (VE.cells_one _) (by simp only [maxLen]; omega) (by omega) (by simp; omega) ?_; intro v3 w3 hown3 hg3 hat3; obtain ⟨P3, c3, rfl, -⟩ := own_formG hown3)
          all_goals
            have hgq : (W4.alloc (.cells #[.bool true, .bool false, .int .i64 e.w, .int .i64 x] 94)).grownBy w3 (Value.slice A1 ms.length c1).ownBlock := ⟨hg3.os, hg3.tape, hg3.output, hg3.size, hg3.block⟩
            have HGV := Lib.hid (VSt.gotV (e := ⟨true, false, e.w, x⟩) ST.out hgq (by simpa using hown3))
            have HS3 := Lib.hid hg3.size
            have RB3 := Lib.hid ((RB.out.alloc (.cells #[.bool true, .bool false, .int .i64 e.w, .int .i64 x] 94)).grown hgq (own_kind ST.out.v RB.out (by decide)))
            clear hown3 hg3 hgq hat3 ST RB EB r5 rl x0 e0 e1 e2 OV0
            obtain ⟨hgv, hgi, hgb⟩ := HGV.out
            have HV3 := Lib.hid hgv
            have HI3 := Lib.hid hgi
            have HB3 := Lib.hid hgb
            have hw3 := HB3.out.size
            clear hgv hgi hgb HGV
            go_wp2_with (at_builtin; refine wpList_append_any _ rfl (.tmp 49) (.tmp 51) _ rfl w.heap.size 3 i0 _ 1 8 Tryz.underlying27 hi hz0 hz1 hz2 rfl (by omega) (.slice A2 ms.length c2) ms.length (vi (zI ms)) rfl (HI3.out.alloc (.cells #[.int .i64 (k : Int)] 3)) (w3.heap.size + 1) (some ⟨w3.heap.size, 0, none⟩) 1 1 [.int .i64 (k : Int)] rfl (lab_reads _ _ _ _ (by simp)) (lab_one _) (by simp only [maxLen]; omega) (by omega) (by simp; omega) ?_)
            intro v5 w5 hown5 hg5 hat5
            obtain ⟨P5, c5, rfl, -⟩ := own_formG hown5
            have HN : Hid (VSt w w5 P3 c3 P5 c5 (ms.map (viewAt G ev v) ++ [⟨true, false, e.w, x⟩]) (ms ++ [k])) := Lib.hid (VSt.gotI HV3.out HI3.out HB3.out rfl hg5 (by simpa using hown5))
            have RB5 := Lib.hid ((RB3.out.alloc (.cells #[.int .i64 (k : Int)] 3)).grown hg5 (own_kind HI3.out RB3.out (by decide)))
            clear hown5 hg5 hat5 HV3 HI3 HB3 RB3
            have hln : (ms ++ [k]).length = ms.length + 1 := by simp
            have HFN : Hid (viewsT G ev v (k + 1) = ms.map (viewAt G ev v) ++ [⟨true, false, e.w, x⟩]) := Lib.hid (by rw [HF.out, HIX.out, HMS.out, List.map_append, List.map_cons, HVX.out]; rfl)
            have HIN : Hid (idxT G v (k + 1) = ms ++ [k]) := Lib.hid (by rw [HIX.out, HMS.out])
            go_wp2
            go_roundw
            case rel => exact ⟨k + 1, P3, c3, P5, c5, by omega, by go_num, by rw [HIN.out, hln], by rw [HIN.out, hln], RB5, by rw [HIN.out, HFN.out]; exact HN⟩
            case measure => simp [intOf]; omega
        · have ht1 : (e.t == v) = false := by simp [ht]
          have HTT := Lib.hid ht
          clear ht
          have HIX := Lib.hid (idx_no he.out HFF.out HTT.out)
          have RB5 := Lib.hid RB.out
          have ST5 := Lib.hid ST.out
          clear hst hbx
          have HFN : Hid (viewsT G ev v (k + 1) = ms.map (viewAt G ev v)) := Lib.hid (by rw [HF.out, HIX.out, HMS.out])
          have HIN : Hid (idxT G v (k + 1) = ms) := Lib.hid (by rw [HIX.out, HMS.out])
          go_wp2
          go_quiet (fail)
          go_wp2
          go_roundw
          case rel => exact ⟨k + 1, A1, c1, A2, c2, by omega, by go_num, by rw [HIN.out], by rw [HIN.out], by first | exact RB5 | exact Lib.hid (RB5.out.drewN _), by rw [HIN.out, HFN.out]; first | exact ST5 | exact Lib.hid (ST5.out.drewN _)⟩
          case measure => simp [intOf]; omega
    · obtain rfl : k = l := by omega
      have HS := Lib.hid hst.out
      clear hst
      go_wp2
      go_ret2
      rw [HF.out, HMS.out]
      exact ⟨A1, c1, A2, c2, rfl, HS.out.v, HS.out.i, HS.out.h⟩
end Go.Proofs.YtpgnappddddlpaaGreatDoor
namespace Go.Proofs.YtpgnappddddlpaaGreatDoor
open Go.RowKit

theorem implAddCap (a b : Int) (w : World) :
    Calls Tryz.prog 112 #[.int .i64 a, .int .i64 b] w (fun e w' => e = .returned (.int .i64 (addC a b)) ∧ w' = w) := by
  have hA : addC a b = min (min (max a 0) 1099511627776 + min (max b 0) 1099511627776) 1099511627776 := rfl
  have H := Lib.hid hA
  obtain ⟨x, hx⟩ : ∃ x, x = min (max a 0) 1099511627776 := ⟨_, rfl⟩
  obtain ⟨y, hy⟩ : ∃ y, y = min (max b 0) 1099511627776 := ⟨_, rfl⟩
  have h0 : 0 ≤ x ∧ x ≤ 1099511627776 := by omega
  have h1 : 0 ≤ y ∧ y ≤ 1099511627776 := by omega
  have HX := Lib.hid hx
  have HY := Lib.hid hy
  have hx' := hx.symm
  have hy' := hy.symm
  have hw : IntKind.i64.wrap (x + y) = x + y := IntWalk.i64_in _ (by omega)
  clear hA hx hy
  go_enter Tryz.func112, Tryz.ntmps112
  go_wp2
  all_goals
    go_ret
    exact ⟨g_int (by have h1 := H.out; have h2 := HX.out; have h3 := HY.out; omega), rfl⟩
theorem implIsVertex (v : Int) (w : World) :
    Calls Tryz.prog 82 #[.int .i64 v] w (fun e w' => e = .returned (.bool (vtxB v)) ∧ w' = w) := by
  by_cases h : 0 ≤ v
  · have e1 : vtxB v = decide (v < 150) := by unfold vtxB; simp [h]
    rw [e1]
    go_enter Tryz.func82, Tryz.ntmps82
    go_wp2
    go_ret
    exact ⟨rfl, rfl⟩
  · have e1 : vtxB v = false := by unfold vtxB; simp [h]
    rw [e1]
    go_enter Tryz.func82, Tryz.ntmps82
    go_wp2
    go_ret
    exact ⟨rfl, rfl⟩
theorem implIsValue (v : Int) (w : World) :
    Calls Tryz.prog 78 #[.int .i64 v] w (fun e w' => e = .returned (.bool (valB v)) ∧ w' = w) := by
  by_cases h : 0 ≤ v
  · have e1 : valB v = decide (v ≤ 1099511627776) := by unfold valB; simp [h]
    rw [e1]
    go_enter Tryz.func78, Tryz.ntmps78
    go_wp2
    go_ret
    exact ⟨rfl, rfl⟩
  · have e1 : valB v = false := by unfold valB; simp [h]
    rw [e1]
    go_enter Tryz.func78, Tryz.ntmps78
    go_wp2
    go_ret
    exact ⟨rfl, rfl⟩
theorem specVertex (v : Int) (w : World) :
    Calls Tryz.prog 69 #[.int .i64 v] w (fun e w' => e = .returned (.bool (vtxB v)) ∧ w' = w) := by
  by_cases h : 0 ≤ v
  · have e1 : vtxB v = decide (v < 150) := by unfold vtxB; simp [h]
    rw [e1]
    go_enter Tryz.func69, Tryz.ntmps69
    go_wp2
    go_ret
    exact ⟨rfl, rfl⟩
  · have e1 : vtxB v = false := by unfold vtxB; simp [h]
    rw [e1]
    go_enter Tryz.func69, Tryz.ntmps69
    go_wp2
    go_ret
    exact ⟨rfl, rfl⟩
theorem specClampF (v : Int) (w : World) :
    Calls Tryz.prog 111 #[.int .i64 v, .int .i64 1099511627776] w (fun e w' => e = .returned (.int .i64 (capF v)) ∧ w' = w) := by
  have hA : capF v = min (max v 0) 1099511627776 := rfl
  have H := Lib.hid hA
  clear hA
  by_cases h : v < 0
  · go_enter Tryz.func111, Tryz.ntmps111
    go_wp2
    go_ret
    exact ⟨g_int (by have h1 := H.out; omega), rfl⟩
  · by_cases h2 : 1099511627776 < v
    · go_enter Tryz.func111, Tryz.ntmps111
      go_wp2
      go_ret
      exact ⟨g_int (by have h1 := H.out; omega), rfl⟩
    · go_enter Tryz.func111, Tryz.ntmps111
      go_wp2
      go_ret
      exact ⟨g_int (by have h1 := H.out; omega), rfl⟩
theorem specCap (v : Int) (w : World) :
    Calls Tryz.prog 91 #[.int .i64 v] w (fun e w' => e = .returned (.int .i64 (capF v)) ∧ w' = w) := by
  have C := Lib.hid (specClampF v w)
  go_enter Tryz.func91, Tryz.ntmps91
  go_wp2_with fail
  refine C.out.mono ?_
  rintro e w1 ⟨rfl, rfl⟩
  go_wp2
  go_ret
  exact ⟨rfl, rfl⟩
theorem specAddCap (a b : Int) (w : World) :
    Calls Tryz.prog 90 #[.int .i64 a, .int .i64 b] w (fun e w' => e = .returned (.int .i64 (addC a b)) ∧ w' = w) := by
  have C := Lib.hid (fun v w => specCap v w)
  have h0 := capF_lim a
  have h1 := capF_lim b
  rw [← addC_cap a b]
  generalize hx : capF a = x at h0
  generalize hy : capF b = y at h1
  have HX := Lib.hid hx
  have HY := Lib.hid hy
  clear hx hy
  have hw : IntKind.i64.wrap (x + y) = x + y := IntWalk.i64_in _ (by omega)
  go_enter Tryz.func90, Tryz.ntmps90
  go_wp2_with fail
  refine (C.out a _).mono ?_
  rw [HX.out]
  rintro e w1 ⟨rfl, rfl⟩
  go_wp2_with fail
  refine (C.out b _).mono ?_
  rw [HY.out]
  rintro e w1 ⟨rfl, rfl⟩
  go_wp2_with fail
  refine (C.out (x + y) _).mono ?_
  rintro e w1 ⟨rfl, rfl⟩
  go_wp2
  go_ret
  exact ⟨rfl, rfl⟩
end Go.Proofs.YtpgnappddddlpaaGreatDoor
namespace Go.Proofs.YtpgnappddddlpaaGreatDoor
open Go.RowKit
@[go_sem] theorem st_nofunc (P : Program) (w : World) (a : Addr) (m : Mode) : (store a .nilFunc m).run P w = stored P w a .nilFunc m := run_store P w a _ m rfl
@[go_sem] theorem st_func (P : Program) (w : World) (a : Addr) (m : Mode) (fn : Fn) (first captured : Array Value) : (store a (.func fn first captured) m).run P w = stored P w a (.func fn first captured) m := run_store P w a _ m rfl
end Go.Proofs.YtpgnappddddlpaaGreatDoor
namespace Go.Proofs.YtpgnappddddlpaaGreatDoor
open Go.RowKit

def prog1 : Array Value := #[.func (.func 92) #[] #[], .func (.func 93) #[] #[], .func (.func 94) #[] #[], .func (.func 95) #[] #[], .func (.func 96) #[] #[]]
def prog2 : Array Value := #[.func (.func 92) #[] #[], .func (.func 97) #[] #[], .func (.func 98) #[] #[], .func (.func 99) #[] #[], .func (.func 100) #[] #[]]
def prog3 : Array Value := #[.func (.func 101) #[] #[], .func (.func 102) #[] #[], .func (.func 98) #[] #[], .func (.func 103) #[] #[], .func (.func 104) #[] #[]]
def prog4 : Array Value := #[.func (.func 92) #[] #[], .func (.func 97) #[] #[], .func (.func 105) #[] #[], .func (.func 106) #[] #[], .func (.func 107) #[] #[]]
def prog0 : Array Value := #[.nilFunc, .nilFunc, .nilFunc, .nilFunc, .nilFunc]
def progAll : Array Value := #[.nilFunc, .nilFunc, .nilFunc, .nilFunc, .nilFunc, .func (.func 92) #[] #[], .func (.func 93) #[] #[], .func (.func 94) #[] #[], .func (.func 95) #[] #[], .func (.func 96) #[] #[], .func (.func 92) #[] #[], .func (.func 97) #[] #[], .func (.func 98) #[] #[], .func (.func 99) #[] #[], .func (.func 100) #[] #[], .func (.func 101) #[] #[], .func (.func 102) #[] #[], .func (.func 98) #[] #[], .func (.func 103) #[] #[], .func (.func 104) #[] #[], .func (.func 92) #[] #[], .func (.func 97) #[] #[], .func (.func 105) #[] #[], .func (.func 106) #[] #[], .func (.func 107) #[] #[]]
theorem wpList_build_is {P : Program} {ops : Array Oper} {rest : List Oper} {o : Oper} {a : Act} {w : World} {Q : Exit → Act → World → Prop} (hg : o.guard = none) (t : TypeId) (parts : Array (Nat × Operand)) (ho : o.op = .build t parts)
    (cells : Array Value) (hf : P.built t (parts.map fun (i, x) => (i, a.eval x)).toList = some cells)
    (h : wpList P ops Q rest (a.put o.dst (.agg cells)) w) : wpList P ops Q (o :: rest) a w :=
  wpList_build hg t parts ho (by rw [hf]; rfl) (by rw [hf]; exact h)
def GivesP (w : World) (v : Array Value) (b : Bool) (e : Ending) (w' : World) : Prop := e = .returned (.tuple #[.agg v, .bool b]) ∧ Below w.heap.size w w'
theorem progAll_store (u : World) : (storeCells ⟨u.heap.size, 0, none⟩ progAll.toList 0).run Tryz.prog (u.alloc (.cells #[.nilFunc, .nilFunc, .nilFunc, .nilFunc, .nilFunc, .nilFunc, .nilFunc, .nilFunc, .nilFunc, .nilFunc, .nilFunc, .nilFunc, .nilFunc, .nilFunc, .nilFunc, .nilFunc, .nilFunc, .nilFunc, .nilFunc, .nilFunc, .nilFunc, .nilFunc, .nilFunc, .nilFunc, .nilFunc] 119)) = .ok () (u.alloc (.cells progAll 119)) := run_storeCells_new u _ _ _ (by kernel_rfl) rfl (by kernel_rfl)

set_option maxRecDepth 20000 in
set_option maxHeartbeats 1000000 in
theorem progOf_1 (w : World) : Calls Tryz.prog 75 #[.int .i64 1] w (GivesP w prog1 true) := by
  have q0 : ∀ h : 5 < progAll.size, progAll[5]'h = .func (.func 92) #[] #[] := fun _ => rfl
  have q1 : ∀ h : 6 < progAll.size, progAll[6]'h = .func (.func 93) #[] #[] := fun _ => rfl
  have q2 : ∀ h : 7 < progAll.size, progAll[7]'h = .func (.func 94) #[] #[] := fun _ => rfl
  have q3 : ∀ h : 8 < progAll.size, progAll[8]'h = .func (.func 95) #[] #[] := fun _ => rfl
  have q4 : ∀ h : 9 < progAll.size, progAll[9]'h = .func (.func 96) #[] #[] := fun _ => rfl
  have hsz : progAll.size = 25 := rfl
  have hsc := progAll_store (w.alloc (.cells #[.nilFunc, .nilFunc, .nilFunc, .nilFunc, .nilFunc] 110))
  rw [World.size_alloc] at hsc
  go_enter Tryz.func75, Tryz.ntmps75
  go_upto_region 3 with fail
  refine wp_region_lit ?_
  refine wpList_build_is rfl _ _ rfl prog1 (by kernel_rfl) ?_
  refine wpList_build_is rfl _ _ rfl prog2 (by kernel_rfl) ?_
  refine wpList_build_is rfl _ _ rfl prog3 (by kernel_rfl) ?_
  refine wpList_build_is rfl _ _ rfl prog4 (by kernel_rfl) ?_
  refine wpList_build_is rfl _ _ rfl progAll (by kernel_rfl) ?_
  (try simp only [Act.put, List.setIfInBounds_toArray, List.set_cons_zero, List.set_cons_succ])
  go_wp2
  refine bodyPost_ret (v := .tuple #[.agg prog1, .bool true]) (by simp [results, Tryz.results75, go_sem, prog1]) rfl ⟨rfl, ?_⟩
  exact below_a2 _ _ _
set_option maxRecDepth 20000 in
set_option maxHeartbeats 1000000 in
theorem progOf_2 (w : World) : Calls Tryz.prog 75 #[.int .i64 2] w (GivesP w prog2 true) := by
  have q0 : ∀ h : 10 < progAll.size, progAll[10]'h = .func (.func 92) #[] #[] := fun _ => rfl
  have q1 : ∀ h : 11 < progAll.size, progAll[11]'h = .func (.func 97) #[] #[] := fun _ => rfl
  have q2 : ∀ h : 12 < progAll.size, progAll[12]'h = .func (.func 98) #[] #[] := fun _ => rfl
  have q3 : ∀ h : 13 < progAll.size, progAll[13]'h = .func (.func 99) #[] #[] := fun _ => rfl
  have q4 : ∀ h : 14 < progAll.size, progAll[14]'h = .func (.func 100) #[] #[] := fun _ => rfl
  have hsz : progAll.size = 25 := rfl
  have hsc := progAll_store (w.alloc (.cells #[.nilFunc, .nilFunc, .nilFunc, .nilFunc, .nilFunc] 110))
  rw [World.size_alloc] at hsc
  go_enter Tryz.func75, Tryz.ntmps75
  go_upto_region 3 with fail
  refine wp_region_lit ?_
  refine wpList_build_is rfl _ _ rfl prog1 (by kernel_rfl) ?_
  refine wpList_build_is rfl _ _ rfl prog2 (by kernel_rfl) ?_
  refine wpList_build_is rfl _ _ rfl prog3 (by kernel_rfl) ?_
  refine wpList_build_is rfl _ _ rfl prog4 (by kernel_rfl) ?_
  refine wpList_build_is rfl _ _ rfl progAll (by kernel_rfl) ?_
  (try simp only [Act.put, List.setIfInBounds_toArray, List.set_cons_zero, List.set_cons_succ])
  go_wp2
  refine bodyPost_ret (v := .tuple #[.agg prog2, .bool true]) (by simp [results, Tryz.results75, go_sem, prog2]) rfl ⟨rfl, ?_⟩
  exact below_a2 _ _ _
set_option maxRecDepth 20000 in
set_option maxHeartbeats 1000000 in
theorem progOf_3 (w : World) : Calls Tryz.prog 75 #[.int .i64 3] w (GivesP w prog3 true) := by
  have q0 : ∀ h : 15 < progAll.size, progAll[15]'h = .func (.func 101) #[] #[] := fun _ => rfl
  have q1 : ∀ h : 16 < progAll.size, progAll[16]'h = .func (.func 102) #[] #[] := fun _ => rfl
  have q2 : ∀ h : 17 < progAll.size, progAll[17]'h = .func (.func 98) #[] #[] := fun _ => rfl
  have q3 : ∀ h : 18 < progAll.size, progAll[18]'h = .func (.func 103) #[] #[] := fun _ => rfl
  have q4 : ∀ h : 19 < progAll.size, progAll[19]'h = .func (.func 104) #[] #[] := fun _ => rfl
  have hsz : progAll.size = 25 := rfl
  have hsc := progAll_store (w.alloc (.cells #[.nilFunc, .nilFunc, .nilFunc, .nilFunc, .nilFunc] 110))
  rw [World.size_alloc] at hsc
  go_enter Tryz.func75, Tryz.ntmps75
  go_upto_region 3 with fail
  refine wp_region_lit ?_
  refine wpList_build_is rfl _ _ rfl prog1 (by kernel_rfl) ?_
  refine wpList_build_is rfl _ _ rfl prog2 (by kernel_rfl) ?_
  refine wpList_build_is rfl _ _ rfl prog3 (by kernel_rfl) ?_
  refine wpList_build_is rfl _ _ rfl prog4 (by kernel_rfl) ?_
  refine wpList_build_is rfl _ _ rfl progAll (by kernel_rfl) ?_
  (try simp only [Act.put, List.setIfInBounds_toArray, List.set_cons_zero, List.set_cons_succ])
  go_wp2
  refine bodyPost_ret (v := .tuple #[.agg prog3, .bool true]) (by simp [results, Tryz.results75, go_sem, prog3]) rfl ⟨rfl, ?_⟩
  exact below_a2 _ _ _
set_option maxRecDepth 20000 in
set_option maxHeartbeats 1000000 in
theorem progOf_4 (w : World) : Calls Tryz.prog 75 #[.int .i64 4] w (GivesP w prog4 true) := by
  have q0 : ∀ h : 20 < progAll.size, progAll[20]'h = .func (.func 92) #[] #[] := fun _ => rfl
  have q1 : ∀ h : 21 < progAll.size, progAll[21]'h = .func (.func 97) #[] #[] := fun _ => rfl
  have q2 : ∀ h : 22 < progAll.size, progAll[22]'h = .func (.func 105) #[] #[] := fun _ => rfl
  have q3 : ∀ h : 23 < progAll.size, progAll[23]'h = .func (.func 106) #[] #[] := fun _ => rfl
  have q4 : ∀ h : 24 < progAll.size, progAll[24]'h = .func (.func 107) #[] #[] := fun _ => rfl
  have hsz : progAll.size = 25 := rfl
  have hsc := progAll_store (w.alloc (.cells #[.nilFunc, .nilFunc, .nilFunc, .nilFunc, .nilFunc] 110))
  rw [World.size_alloc] at hsc
  go_enter Tryz.func75, Tryz.ntmps75
  go_upto_region 3 with fail
  refine wp_region_lit ?_
  refine wpList_build_is rfl _ _ rfl prog1 (by kernel_rfl) ?_
  refine wpList_build_is rfl _ _ rfl prog2 (by kernel_rfl) ?_
  refine wpList_build_is rfl _ _ rfl prog3 (by kernel_rfl) ?_
  refine wpList_build_is rfl _ _ rfl prog4 (by kernel_rfl) ?_
  refine wpList_build_is rfl _ _ rfl progAll (by kernel_rfl) ?_
  (try simp only [Act.put, List.setIfInBounds_toArray, List.set_cons_zero, List.set_cons_succ])
  go_wp2
  refine bodyPost_ret (v := .tuple #[.agg prog4, .bool true]) (by simp [results, Tryz.results75, go_sem, prog4]) rfl ⟨rfl, ?_⟩
  exact below_a2 _ _ _
set_option maxHeartbeats 1000000 in
theorem progOf_no (p : Int) (h : p < 1 ∨ 4 < p) (w : World) : Calls Tryz.prog 75 #[.int .i64 p] w (GivesP w prog0 false) := by
  by_cases h1 : p < 1
  · clear h
    go_enter Tryz.func75, Tryz.ntmps75
    go_wp2
    refine bodyPost_ret (v := .tuple #[.agg prog0, .bool false]) (by simp [results, Tryz.results75, go_sem, prog0]) rfl ⟨rfl, ?_⟩
    exact below_a1 _ _
  · have h2 : 4 < p := by omega
    clear h
    go_enter Tryz.func75, Tryz.ntmps75
    go_wp2
    refine bodyPost_ret (v := .tuple #[.agg prog0, .bool false]) (by simp [results, Tryz.results75, go_sem, prog0]) rfl ⟨rfl, ?_⟩
    exact below_a1 _ _

theorem src_no (n s : Int) (w : World) : Calls Tryz.prog 92 #[.int .i64 n, .int .i64 s] w (fun e w' => e = .returned (.bool (decide (s = 0))) ∧ w' = w) := by
  go_enter Tryz.func92, Tryz.ntmps92
  go_wp2
  go_ret
  exact ⟨rfl, rfl⟩
theorem src_3 (n s : Int) (w : World) : Calls Tryz.prog 101 #[.int .i64 n, .int .i64 s] w (fun e w' => e = .returned (.bool (decide (0 ≤ s) && decide (s < n))) ∧ w' = w) := by
  by_cases h : 0 ≤ s
  · have e1 : (decide (0 ≤ s) && decide (s < n)) = decide (s < n) := by simp [h]
    rw [e1]
    go_enter Tryz.func101, Tryz.ntmps101
    go_wp2
    go_ret
    exact ⟨rfl, rfl⟩
  · have e1 : (decide (0 ≤ s) && decide (s < n)) = false := by simp [h]
    rw [e1]
    go_enter Tryz.func101, Tryz.ntmps101
    go_wp2
    go_ret
    exact ⟨rfl, rfl⟩
end Go.Proofs.YtpgnappddddlpaaGreatDoor
namespace Go.Proofs.YtpgnappddddlpaaGreatDoor
open Go.RowKit

theorem prog_cases (p : Int) : (p < 1 ∨ 4 < p) ∨ p = 1 ∨ p = 2 ∨ p = 3 ∨ p = 4 := by omega
theorem progB_no {p : Int} (h : p < 1 ∨ 4 < p) : progB p = false := by unfold progB; simp; omega

set_option maxHeartbeats 1000000 in
theorem implJobOk (n p s : Int) (w : World) :
    Calls Tryz.prog 58 #[.int .i64 n, .agg #[.int .i64 p, .int .i64 s]] w (fun e w' => e = .returned (.bool (jobB n p s)) ∧ Below w.heap.size w w') := by
  rcases prog_cases p with h | rfl | rfl | rfl | rfl
  · have hj : jobB n p s = false := by unfold jobB; rw [progB_no h]; rfl
    rw [hj]
    have C := Lib.hid (fun W => progOf_no p h W)
    clear h hj
    unfold GivesP prog0 at C
    go_enter Tryz.func58, Tryz.ntmps58
    go_wp2_with fail
    refine (C.out _).mono ?_
    rintro e w1 ⟨rfl, hb⟩
    have HB := Lib.hid (g_chain (below_a1 w _) hb)
    clear hb
    go_wp2
    go_ret
    exact ⟨rfl, g_chain HB.out (below_a1 _ _)⟩
  · have hj : jobB n 1 s = (decide (s = 0)) := by unfold jobB progB; simp
    rw [hj]
    have C := Lib.hid (fun W => progOf_1 W)
    have CS := Lib.hid (fun W => src_no n s W)
    clear hj
    unfold GivesP prog1 at C
    go_enter Tryz.func58, Tryz.ntmps58
    go_wp2_with fail
    refine (C.out _).mono ?_
    rintro e w1 ⟨rfl, hb⟩
    have HB := Lib.hid (g_chain (below_a1 w _) hb)
    obtain ⟨hc, hf⟩ := bcell hb
    have hz : w.heap.size < w1.heap.size := by have := hb.size; simp at this; omega
    clear hb
    go_wp2_with fail
    refine (CS.out _).mono ?_
    rintro e w2 ⟨rfl, rfl⟩
    go_wp2
    go_ret
    exact ⟨rfl, g_chain HB.out (below_a1 _ _)⟩
  · have hj : jobB n 2 s = (decide (s = 0)) := by unfold jobB progB; simp
    rw [hj]
    have C := Lib.hid (fun W => progOf_2 W)
    have CS := Lib.hid (fun W => src_no n s W)
    clear hj
    unfold GivesP prog2 at C
    go_enter Tryz.func58, Tryz.ntmps58
    go_wp2_with fail
    refine (C.out _).mono ?_
    rintro e w1 ⟨rfl, hb⟩
    have HB := Lib.hid (g_chain (below_a1 w _) hb)
    obtain ⟨hc, hf⟩ := bcell hb
    have hz : w.heap.size < w1.heap.size := by have := hb.size; simp at this; omega
    clear hb
    go_wp2_with fail
    refine (CS.out _).mono ?_
    rintro e w2 ⟨rfl, rfl⟩
    go_wp2
    go_ret
    exact ⟨rfl, g_chain HB.out (below_a1 _ _)⟩
  · have hj : jobB n 3 s = (decide (0 ≤ s) && decide (s < n)) := by unfold jobB progB; simp
    rw [hj]
    have C := Lib.hid (fun W => progOf_3 W)
    have CS := Lib.hid (fun W => src_3 n s W)
    clear hj
    unfold GivesP prog3 at C
    go_enter Tryz.func58, Tryz.ntmps58
    go_wp2_with fail
    refine (C.out _).mono ?_
    rintro e w1 ⟨rfl, hb⟩
    have HB := Lib.hid (g_chain (below_a1 w _) hb)
    obtain ⟨hc, hf⟩ := bcell hb
    have hz : w.heap.size < w1.heap.size := by have := hb.size; simp at this; omega
    clear hb
    go_wp2_with fail
    refine (CS.out _).mono ?_
    rintro e w2 ⟨rfl, rfl⟩
    go_wp2
    go_ret
    exact ⟨rfl, g_chain HB.out (below_a1 _ _)⟩
  · have hj : jobB n 4 s = (decide (s = 0)) := by unfold jobB progB; simp
    rw [hj]
    have C := Lib.hid (fun W => progOf_4 W)
    have CS := Lib.hid (fun W => src_no n s W)
    clear hj
    unfold GivesP prog4 at C
    go_enter Tryz.func58, Tryz.ntmps58
    go_wp2_with fail
    refine (C.out _).mono ?_
    rintro e w1 ⟨rfl, hb⟩
    have HB := Lib.hid (g_chain (below_a1 w _) hb)
    obtain ⟨hc, hf⟩ := bcell hb
    have hz : w.heap.size < w1.heap.size := by have := hb.size; simp at this; omega
    clear hb
    go_wp2_with fail
    refine (CS.out _).mono ?_
    rintro e w2 ⟨rfl, rfl⟩
    go_wp2
    go_ret
    exact ⟨rfl, g_chain HB.out (below_a1 _ _)⟩
end Go.Proofs.YtpgnappddddlpaaGreatDoor
namespace Go.Proofs.YtpgnappddddlpaaGreatDoor
open Go.RowKit

theorem g_val {k : IntKind} {a b : Int} (h : a = b) : Value.int k a = .int k b := by rw [h]

set_option maxRecDepth 10000 in
set_option maxHeartbeats 1000000 in
theorem implNewRank (x : Int) (A : Option Addr) (n c : Nat) (es : List VE) (w : World) (hr : SlV w A n es) (hn : n ≤ 2097152) :
    Calls Tryz.prog 95 #[.int .i64 x, .slice A n c] w (fun e w' => e = .returned (.int .i64 (newRank es)) ∧ Below w.heap.size w w') := by
  have HR := Lib.hid hr
  have HL := Lib.hid hr.len
  clear hr
  have CA := Lib.hid (fun a b W => implAddCap a b W)
  go_enter Tryz.func95, Tryz.ntmps95
  go_wp2
  go_loopw [5, 10] (fun s i wr => ∃ k : Nat, k ≤ n ∧ i = .int .i64 (k : Int) ∧ s = .int .i64 (rankS (es.take k)) ∧ Hid (Below w.heap.size w wr)) (fun _ i _ => n - (intOf i).toNat)
  case atStart => exact ⟨0, Nat.zero_le _, rfl, rfl, Lib.hid (Below.refl _ _)⟩
  case round =>
    obtain ⟨k, hk, rfl, rfl, hbel⟩ := hrel
    have HLIM := Lib.hid (rankS_lim (es.take k))
    obtain ⟨s, hs⟩ : ∃ s, s = rankS (es.take k) := ⟨_, rfl⟩
    rw [← hs] at HLIM
    simp only [← hs]
    have HS := Lib.hid hs
    clear hs
    by_cases hlt : k < n
    · skip
      obtain ⟨b, off, e, rfl, hbw, he, c0, c1, c2, c3⟩ := HR.out.at_ hlt
      have c0 := (hbel.out.cell (p := ⟨b, off + k * 4, none⟩) hbw).trans c0
      have c1 := (hbel.out.cell (p := ⟨b, off + k * 4 + 1, none⟩) hbw).trans c1
      have c2 := (hbel.out.cell (p := ⟨b, off + k * 4 + 2, none⟩) hbw).trans c2
      have c3 := (hbel.out.cell (p := ⟨b, off + k * 4 + 3, none⟩) hbw).trans c3
      have HN := Lib.hid (rankS_snoc he.out)
      cases hi : e.i with
      | true =>
        rw [hi] at c0
        go_wp2_with fail
        refine (CA.out s e.v _).mono ?_
        rintro e1 w1 ⟨rfl, rfl⟩
        go_wp2
        go_roundw
        case rel => exact ⟨k + 1, by omega, by go_num, by rw [HN.out, ← HS.out]; unfold rankStep; rw [hi]; rfl, Lib.hid (g_chain hbel.out (below_a1 _ _))⟩
        case measure => simp [intOf]; omega
      | false =>
        rw [hi] at c0
        go_wp2
        go_roundw
        case rel => exact ⟨k + 1, by omega, by go_num, by rw [HN.out, ← HS.out]; unfold rankStep; rw [hi]; rfl, Lib.hid (g_chain hbel.out (below_a1 _ _))⟩
        case measure => simp [intOf]; omega
    · obtain rfl : k = n := by omega
      have hb0 : 0 ≤ 17 * s := by have := HLIM.out; omega
      have hb1 : 17 * s ≤ 17 * 1099511627776 := by have := HLIM.out; omega
      have hq1 : IntKind.i64.wrap (17 * s) = 17 * s := IntWalk.i64_in _ (by omega)
      have hq2 : IntKind.i64.wrap (Int.tdiv (17 * s) 20) = Int.tdiv (17 * s) 20 := IntWalk.i64_in _ (by rw [Int.tdiv_eq_ediv_of_nonneg hb0]; omega)
      go_wp2_with fail
      refine (CA.out 157286 (Int.tdiv (17 * s) 20) _).mono ?_
      rintro e1 w1 ⟨rfl, rfl⟩
      go_wp2
      go_ret
      exact ⟨g_int (by unfold newRank; rw [HS.out, ← HL.out, List.take_length]), hbel.out⟩
set_option maxRecDepth 10000 in
set_option maxHeartbeats 1000000 in
theorem implNewComponent (x : Int) (A : Option Addr) (n c : Nat) (es : List VE) (w : World) (hr : SlV w A n es) (hn : n ≤ 2097152) :
    Calls Tryz.prog 99 #[.int .i64 x, .slice A n c] w (fun e w' => e = .returned (.int .i64 (minAll x es)) ∧ Below w.heap.size w w') := by
  have HR := Lib.hid hr
  have HL := Lib.hid hr.len
  clear hr
  go_enter Tryz.func99, Tryz.ntmps99
  go_wp2
  go_loopw [0, 9] (fun s i wr => ∃ k : Nat, k ≤ n ∧ i = .int .i64 (k : Int) ∧ s = .int .i64 (minAll x (es.take k)) ∧ Hid (Below w.heap.size w wr)) (fun _ i _ => n - (intOf i).toNat)
  case atStart => exact ⟨0, Nat.zero_le _, rfl, rfl, Lib.hid (Below.refl _ _)⟩
  case round =>
    obtain ⟨k, hk, rfl, rfl, hbel⟩ := hrel
    obtain ⟨s, hs⟩ : ∃ s, s = minAll x (es.take k) := ⟨_, rfl⟩
    simp only [← hs]
    have HS := Lib.hid hs
    clear hs
    by_cases hlt : k < n
    · skip
      obtain ⟨b, off, e, rfl, hbw, he, c0, c1, c2, c3⟩ := HR.out.at_ hlt
      have c0 := (hbel.out.cell (p := ⟨b, off + k * 4, none⟩) hbw).trans c0
      have c1 := (hbel.out.cell (p := ⟨b, off + k * 4 + 1, none⟩) hbw).trans c1
      have c2 := (hbel.out.cell (p := ⟨b, off + k * 4 + 2, none⟩) hbw).trans c2
      have c3 := (hbel.out.cell (p := ⟨b, off + k * 4 + 3, none⟩) hbw).trans c3
      have HN := Lib.hid (minAll_snoc x he.out)
      have HZ := Lib.hid (show min s e.v = min s e.v from rfl)
      obtain ⟨z, hz⟩ : ∃ z, min s e.v = z := ⟨_, rfl⟩
      have HZ := Lib.hid hz
      go_wp2
      all_goals
        go_roundw
        case rel => exact ⟨k + 1, by omega, by go_num, g_val (by rw [HN.out, ← HS.out]; first | exact HZ.out.symm | (have := HZ.out; omega) | omega), Lib.hid (g_chain hbel.out (below_a1 _ _))⟩
        case measure => simp [intOf]; omega
    · obtain rfl : k = n := by omega
      go_wp2
      go_ret
      exact ⟨g_int (by rw [HS.out, ← HL.out, List.take_length]), hbel.out⟩
set_option maxRecDepth 10000 in
set_option maxHeartbeats 1000000 in
theorem implNewDistance (x : Int) (A : Option Addr) (n c : Nat) (es : List VE) (w : World) (hr : SlV w A n es) (hn : n ≤ 2097152) :
    Calls Tryz.prog 103 #[.int .i64 x, .slice A n c] w (fun e w' => e = .returned (.int .i64 (minPath x es)) ∧ Below w.heap.size w w') := by
  have HR := Lib.hid hr
  have HL := Lib.hid hr.len
  clear hr
  have CA := Lib.hid (fun a b W => implAddCap a b W)
  go_enter Tryz.func103, Tryz.ntmps103
  go_wp2
  go_loopw [0, 9] (fun s i wr => ∃ k : Nat, k ≤ n ∧ i = .int .i64 (k : Int) ∧ s = .int .i64 (minPath x (es.take k)) ∧ Hid (Below w.heap.size w wr)) (fun _ i _ => n - (intOf i).toNat)
  case atStart => exact ⟨0, Nat.zero_le _, rfl, rfl, Lib.hid (Below.refl _ _)⟩
  case round =>
    obtain ⟨k, hk, rfl, rfl, hbel⟩ := hrel
    obtain ⟨s, hs⟩ : ∃ s, s = minPath x (es.take k) := ⟨_, rfl⟩
    simp only [← hs]
    have HS := Lib.hid hs
    clear hs
    by_cases hlt : k < n
    · skip
      obtain ⟨b, off, e, rfl, hbw, he, c0, c1, c2, c3⟩ := HR.out.at_ hlt
      have c0 := (hbel.out.cell (p := ⟨b, off + k * 4, none⟩) hbw).trans c0
      have c1 := (hbel.out.cell (p := ⟨b, off + k * 4 + 1, none⟩) hbw).trans c1
      have c2 := (hbel.out.cell (p := ⟨b, off + k * 4 + 2, none⟩) hbw).trans c2
      have c3 := (hbel.out.cell (p := ⟨b, off + k * 4 + 3, none⟩) hbw).trans c3
      have HN := Lib.hid (minPath_snoc x he.out)
      cases hi : e.i with
      | true =>
        rw [hi] at c0
        have HP : Hid (pathStep s e = min s (addC e.v e.w)) := Lib.hid (by unfold pathStep; rw [hi]; rfl)
        go_wp2_with fail
        refine (CA.out e.v e.w _).mono ?_
        generalize addC e.v e.w = q at HP
        rintro e1 w1 ⟨rfl, rfl⟩
        obtain ⟨z, hz⟩ : ∃ z, min s q = z := ⟨_, rfl⟩
        have HZ := Lib.hid hz
        go_wp2
        all_goals
          go_roundw
          case rel => exact ⟨k + 1, by omega, by go_num, g_val (by rw [HN.out, ← HS.out, HP.out]; first | exact HZ.out.symm | (have := HZ.out; omega) | omega), Lib.hid (g_chain hbel.out (below_a1 _ _))⟩
          case measure => simp [intOf]; omega
      | false =>
        rw [hi] at c0
        go_wp2
        go_roundw
        case rel => exact ⟨k + 1, by omega, by go_num, by rw [HN.out, ← HS.out]; unfold pathStep; rw [hi]; rfl, Lib.hid (g_chain hbel.out (below_a1 _ _))⟩
        case measure => simp [intOf]; omega
    · obtain rfl : k = n := by omega
      go_wp2
      go_ret
      exact ⟨g_int (by rw [HS.out, ← HL.out, List.take_length]), hbel.out⟩
set_option maxRecDepth 10000 in
set_option maxHeartbeats 1000000 in
theorem implCountOuts (A : Option Addr) (n c : Nat) (es : List VE) (w : World) (hr : SlV w A n es) (hn : n ≤ 2097152) :
    Calls Tryz.prog 84 #[.slice A n c] w (fun e w' => e = .returned (.int .i64 (outsN es : Int)) ∧ Below w.heap.size w w') := by
  have HR := Lib.hid hr
  have HL := Lib.hid hr.len
  clear hr
  go_enter Tryz.func84, Tryz.ntmps84
  go_wp2
  go_loopw [3, 8] (fun s i wr => ∃ k : Nat, k ≤ n ∧ i = .int .i64 (k : Int) ∧ s = .int .i64 (outsN (es.take k) : Int) ∧ Hid (Below w.heap.size w wr)) (fun _ i _ => n - (intOf i).toNat)
  case atStart => exact ⟨0, Nat.zero_le _, rfl, rfl, Lib.hid (Below.refl _ _)⟩
  case round =>
    obtain ⟨k, hk, rfl, rfl, hbel⟩ := hrel
    have HO := outsN_le (es.take k)
    rw [List.length_take] at HO
    obtain ⟨s, hs⟩ : ∃ s, s = outsN (es.take k) := ⟨_, rfl⟩
    rw [← hs] at HO
    simp only [← hs]
    have HS := Lib.hid hs
    have hs2 : s ≤ 2097152 := by omega
    clear hs HO
    by_cases hlt : k < n
    · skip
      obtain ⟨b, off, e, rfl, hbw, he, c0, c1, c2, c3⟩ := HR.out.at_ hlt
      have c0 := (hbel.out.cell (p := ⟨b, off + k * 4, none⟩) hbw).trans c0
      have c1 := (hbel.out.cell (p := ⟨b, off + k * 4 + 1, none⟩) hbw).trans c1
      have c2 := (hbel.out.cell (p := ⟨b, off + k * 4 + 2, none⟩) hbw).trans c2
      have c3 := (hbel.out.cell (p := ⟨b, off + k * 4 + 3, none⟩) hbw).trans c3
      have HN := Lib.hid (outsN_snoc he.out)
      cases hi : e.o with
      | true =>
        rw [hi] at c1 HN
        go_wp2
        go_roundw
        case rel => exact ⟨k + 1, by omega, by go_num, g_val (by rw [HN.out, if_pos rfl, ← HS.out]; first | rfl | omega | (simp only [IntKind.wrap_i64]; omega)), Lib.hid (g_chain hbel.out (below_a1 _ _))⟩
        case measure => simp [intOf]; omega
      | false =>
        rw [hi] at c1 HN
        go_wp2
        go_roundw
        case rel => exact ⟨k + 1, by omega, by go_num, by rw [HN.out, if_neg (by simp), ← HS.out], Lib.hid (g_chain hbel.out (below_a1 _ _))⟩
        case measure => simp [intOf]; omega
    · obtain rfl : k = n := by omega
      go_wp2
      go_ret
      exact ⟨g_int (by rw [HS.out, ← HL.out, List.take_length]), hbel.out⟩
end Go.Proofs.YtpgnappddddlpaaGreatDoor
namespace Go.Proofs.YtpgnappddddlpaaGreatDoor
open Go.RowKit

theorem specMin (a b : Int) (w : World) : Calls Tryz.prog 89 #[.int .i64 a, .int .i64 b] w (fun e w' => e = .returned (.int .i64 (min a b)) ∧ w' = w) := by
  by_cases h : a < b
  · rw [Int.min_eq_left (by omega)]
    go_enter Tryz.func89, Tryz.ntmps89
    go_wp2
    go_ret
    exact ⟨rfl, rfl⟩
  · rw [Int.min_eq_right (by omega)]
    go_enter Tryz.func89, Tryz.ntmps89
    go_wp2
    go_ret
    exact ⟨rfl, rfl⟩

set_option maxRecDepth 10000 in
set_option maxHeartbeats 1000000 in
theorem specRank (A : Option Addr) (n c : Nat) (es : List VE) (w : World) (hr : SlV w A n es) (hn : n ≤ 2097152) :
    Calls Tryz.prog 86 #[.slice A n c] w (fun e w' => e = .returned (.int .i64 (newRank es)) ∧ Below w.heap.size w w') := by
  have HR := Lib.hid hr
  have HL := Lib.hid hr.len
  clear hr
  have CA := Lib.hid (fun a b W => specAddCap a b W)
  have CC := Lib.hid (fun v W => specCap v W)
  go_enter Tryz.func86, Tryz.ntmps86
  go_wp2
  go_loopw [3, 8] (fun s i wr => ∃ k : Nat, k ≤ n ∧ i = .int .i64 (k : Int) ∧ s = .int .i64 (rankS (es.take k)) ∧ Hid (Below w.heap.size w wr)) (fun _ i _ => n - (intOf i).toNat)
  case atStart => exact ⟨0, Nat.zero_le _, rfl, rfl, Lib.hid (Below.refl _ _)⟩
  case round =>
    obtain ⟨k, hk, rfl, rfl, hbel⟩ := hrel
    have HLIM := Lib.hid (rankS_lim (es.take k))
    obtain ⟨s, hs⟩ : ∃ s, s = rankS (es.take k) := ⟨_, rfl⟩
    rw [← hs] at HLIM
    simp only [← hs]
    have HS := Lib.hid hs
    clear hs
    by_cases hlt : k < n
    · skip
      obtain ⟨b, off, e, rfl, hbw, he, c0, c1, c2, c3⟩ := HR.out.at_ hlt
      have c0 := (hbel.out.cell (p := ⟨b, off + k * 4, none⟩) hbw).trans c0
      have c1 := (hbel.out.cell (p := ⟨b, off + k * 4 + 1, none⟩) hbw).trans c1
      have c2 := (hbel.out.cell (p := ⟨b, off + k * 4 + 2, none⟩) hbw).trans c2
      have c3 := (hbel.out.cell (p := ⟨b, off + k * 4 + 3, none⟩) hbw).trans c3
      have HN := Lib.hid (rankS_snoc he.out)
      cases hi : e.i with
      | true =>
        rw [hi] at c0
        go_wp2_with fail
        refine (CA.out s e.v _).mono ?_
        rintro e1 w1 ⟨rfl, rfl⟩
        go_wp2
        go_roundw
        case rel => exact ⟨k + 1, by omega, by go_num, by rw [HN.out, ← HS.out]; unfold rankStep; rw [hi]; rfl, Lib.hid (g_chain hbel.out (below_a1 _ _))⟩
        case measure => simp [intOf]; omega
      | false =>
        rw [hi] at c0
        go_wp2
        go_roundw
        case rel => exact ⟨k + 1, by omega, by go_num, by rw [HN.out, ← HS.out]; unfold rankStep; rw [hi]; rfl, Lib.hid (g_chain hbel.out (below_a1 _ _))⟩
        case measure => simp [intOf]; omega
    · obtain rfl : k = n := by omega
      have hb0 : 0 ≤ 17 * s := by have := HLIM.out; omega
      have hb1 : 17 * s ≤ 17 * 1099511627776 := by have := HLIM.out; omega
      have hq1 : IntKind.i64.wrap (17 * s) = 17 * s := IntWalk.i64_in _ (by omega)
      have hq2 : IntKind.i64.wrap (Int.tdiv (17 * s) 20) = Int.tdiv (17 * s) 20 := IntWalk.i64_in _ (by rw [Int.tdiv_eq_ediv_of_nonneg hb0]; omega)
      have hq3 : IntKind.i64.wrap (157286 + Int.tdiv (17 * s) 20) = 157286 + Int.tdiv (17 * s) 20 := IntWalk.i64_in _ (by rw [Int.tdiv_eq_ediv_of_nonneg hb0]; omega)
      have hq4 : 0 ≤ Int.tdiv (17 * s) 20 := by rw [Int.tdiv_eq_ediv_of_nonneg hb0]; omega
      have HQ := Lib.hid (addC_in (a := 157286) (by omega) hq4)
      go_wp2_with fail
      refine (CC.out (157286 + Int.tdiv (17 * s) 20) _).mono ?_
      rintro e1 w1 ⟨rfl, rfl⟩
      go_wp2
      go_ret
      exact ⟨g_int (by rw [← HQ.out]; unfold newRank; rw [HS.out, ← HL.out, List.take_length]), hbel.out⟩
end Go.Proofs.YtpgnappddddlpaaGreatDoor
