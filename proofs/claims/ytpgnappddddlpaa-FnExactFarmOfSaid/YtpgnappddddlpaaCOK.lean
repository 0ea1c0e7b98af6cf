/- The contract of the model's Merge. Condition: at most 2^20 batches and records. // A tree of sources of records in memory (plain lemmas over the model; no condition). -/
import Derived.Test.YtpgnappddddlpaaCOI
import Derived.Test.YtpgnappddddlpaaCOJ
import Derived.Deep.Cut
import Derived.Deep.RegionLaw
import Derived.StillTailTactics
import Derived.Test.YtpgnappddddlpaaCOQ
namespace Go.Proofs.Ytpgnappddddlpaa
open Go.RowKit

theorem Try.infoInt2 : (Try.prog.info? 3).map (fun i => (i.zero, i.size, i.bytes)) = some (some (.int .i64 0), 1, 8) := by kernel_rfl
def vn (ats : List Nat) : List Value := ats.map fun (a : Nat) => .int .i64 (a : Int)
theorem vn_at {ats : List Nat} {j a : Nat} (h : ats[j]? = some a) : (vn ats)[j]? = some (.int .i64 (a : Int)) := by simp [vn, h]
theorem vn_zero (n : Nat) : vn (List.replicate n 0) = List.replicate n (.int .i64 0) := by simp [vn]
theorem rep_flat : ∀ (n : Nat), (List.replicate n (0 : Int)).flatMap (fun x : Int => [Value.int .i64 x]) = List.replicate n (.int .i64 0)
  | 0 => rfl
  | n + 1 => by rw [List.replicate_succ, List.flatMap_cons, rep_flat n]; rfl
theorem vn_set (ats : List Nat) (j a : Nat) : (vn ats).set j (.int .i64 (a : Int)) = vn (ats.set j a) := by simp [vn, List.map_set]
theorem own_typesM {w : World} {lo lo' e e' size size' n n' : Nat} {v v' : Value} {xs xs' : List Value} (h : w.ownsRow lo e size v n xs) (h' : w.ownsRow lo' e' size' v' n' xs') (hne : e ≠ e') : v.ownBlock = none ∨ v.ownBlock ≠ v'.ownBlock := by
  rcases h.2 with ⟨rfl, _⟩ | ⟨g, cap, cur, rfl, _, hg, _⟩
  · exact .inl rfl
  · refine .inr (fun eq => ?_)
    rcases h'.2 with ⟨rfl, _⟩ | ⟨g', cap', cur', rfl, _, hg', _⟩
    · simp [Value.ownBlock] at eq
    · have e3 : g = g' := by simpa [Value.ownBlock] using eq
      subst e3
      rw [hg] at hg'
      injection hg' with hg'
      injection hg' with _ h2
      exact hne h2
def sliceLenS : Value → Nat
  | .slice _ n _ => n
  | _ => 0
theorem own_drewS {w : World} {lo e size n : Nat} {v : Value} {xs : List Value} (h : w.ownsRow lo e size v n xs) : w.drew.ownsRow lo e size v n xs := h
theorem reads_drewS {w : World} {B size m : Nat} {A : Option Addr} {xs : List Value} (h : Reads w B size A m xs) : Reads w.drew B size A m xs := h
/-- What stands between two rounds of Merge. -/
structure SMSt (w wr : World) (g n : Nat) (bs : List BE) (P : Option Addr) (k c1 : Nat) (pre : List GE) (ats : List Nat) : Prop where
  row : wr.ownsRow w.heap.size 150 3 (.slice P k c1) k (pre.flatMap GE.cells)
  at_ : wr.ownsRow w.heap.size 3 1 (.slice (some ⟨g, 0, none⟩) n n) n (vn ats)
  la : ats.length = n
  len : pre.length = k
  bel : Below w.heap.size w wr
  all : pre ++ mergeAll (rest bs ats) = mergeAll (bs.map BE.es)
theorem SMSt.below {w wr wr' : World} {g n : Nat} {bs : List BE} {P : Option Addr} {k c1 : Nat} {pre : List GE} {ats : List Nat} (h : SMSt w wr g n bs P k c1 pre ats) (hb : Below wr.heap.size wr wr') : SMSt w wr' g n bs P k c1 pre ats :=
  ⟨own_below h.row hb, own_below h.at_ hb, h.la, h.len, g_chain h.bel hb, h.all⟩
theorem SMSt.cellAt {w wr : World} {g n : Nat} {bs : List BE} {P : Option Addr} {k c1 : Nat} {pre : List GE} {ats : List Nat} {j : Nat} (h : SMSt w wr g n bs P k c1 pre ats) (hj : j < n) : ∃ a, ats[j]? = some a ∧ wr.cell? ⟨g, j, none⟩ = some (.int .i64 (a : Int)) := by
  have hl := h.la
  obtain ⟨a, ha⟩ : ∃ a, ats[j]? = some a := ⟨ats[j], List.getElem?_eq_getElem (by omega)⟩
  exact ⟨a, ha, (h.at_.cellAt j (by omega)).trans (vn_at ha)⟩

set_option maxRecDepth 100000 in
set_option maxHeartbeats 4000000 in
theorem specMerge (A : Option Addr) (n c : Nat) (bs : List BE) (w : World) (hr : SlT w A n bs) (hn : n ≤ 1048576) (ht : totalR (bs.map BE.es) ≤ 1048576) :
    Calls Try.prog 151 #[.slice A n c] w (MadeRc w (mergeAll (bs.map BE.es))) := by
  obtain ⟨j0, hj, jz0, jz1, jz2⟩ := info_parts Try.infoRec
  obtain ⟨i0, hi, hz0, hz1, hz2⟩ := info_parts Try.infoInt2
  have HEN : Hid (∀ e ∈ bs, e.n ≤ 1048576) := Lib.hid (fun e he => by
    have := mem_sum (List.mem_map_of_mem (f := List.length) (List.mem_map_of_mem (f := BE.es) he))
    have := (hr.each e he).rd.len
    unfold totalR at ht
    omega)
  have HT : Hid ((mergeAll (bs.map BE.es)).length ≤ 1048576) := Lib.hid (by rw [mergeAll_len]; exact ht)
  have HR := Lib.hid hr
  have HL := Lib.hid hr.len
  clear hr ht
  go_enter Try.func151, Try.ntmps151
  go_wp2_with (refine wpList_make_full _ rfl (.tmp 10) (.tmp 10) 23 rfl w.heap.size 3 i0 (.int .i64 0) 1 Try.underlying23 hi hz0 hz1 .i64 .i64 _ _ n rfl rfl rfl rfl (by rw [hz2]; omega) (by unfold maxLen; omega) (by simp) ?_; intro w2 hown hg)
  have hx : (madeCells (Value.int .i64 0).cells (n * 1)).toList = vn (List.replicate n 0) := by
    rw [g_rep (fun x : Int => [Value.int .i64 x]) 0 1 (fun _ => rfl) (by omega) (Value.int .i64 0).cells rfl n, vn_zero]
    exact rep_flat n
  have hsz1 : (w.alloc (.cells #[] 150)).heap.size = w.heap.size + 1 := by simp
  rw [hx, hsz1] at hown
  have HM : Hid (SMSt w w2 (w.heap.size + 1) n bs (some ⟨w.heap.size, 0, none⟩) 0 0 [] (List.replicate n 0)) :=
    Lib.hid ⟨(rec_built w).kept hg (by simp [Value.ownBlock]), hown, by simp, rfl, (below_a1 w _).grown hg (by simp) (fun j hj => by simp at hj), by rw [← HL.out, rest_zero]; rfl⟩
  clear hown hg hx hsz1
  obtain ⟨g, hgg⟩ : ∃ g, w.heap.size + 1 = g := ⟨_, rfl⟩
  rw [hgg] at HM ⊢
  clear hgg
  go_loopw [3] (fun v wr => ∃ (P : Option Addr) (k c1 : Nat) (pre : List GE) (ats : List Nat), v = .slice P k c1 ∧ Hid (SMSt w wr g n bs P k c1 pre ats)) (fun v _ => 1048576 - sliceLenS v)
  case atStart => exact ⟨_, _, _, _, _, rfl, HM⟩
  case round =>
    clear HM
    obtain ⟨P, k, c1, pre, ats, rfl, hM⟩ := hrel
    generalize wr = W0 at hM ⊢
    obtain ⟨rs, hrs⟩ : ∃ rs, rest bs ats = rs := ⟨_, rfl⟩
    have HRS := Lib.hid hrs
    have HRL : Hid (rs.length = n) := Lib.hid (by rw [← hrs, rest_len (by rw [hM.out.la, HL.out]), HL.out])
    clear hrs
    go_wp2
    go_loopw [5, 14] (fun b i wi => ∃ (j : Nat), j ≤ n ∧ i = .int .i64 j ∧ b = .int .i64 (bestI (bestFrom 0 none (rs.take j))) ∧ Hid (Below W0.heap.size W0 wi)) (fun _ i _ => n - (intOf i).toNat)
    case atStart => exact ⟨0, Nat.zero_le _, rfl, rfl, Lib.hid (Below.refl _ _)⟩
    case round =>
      obtain ⟨i, hi9, rfl, rfl, hbel⟩ := hrel
      have HMI := Lib.hid (hM.out.below hbel.out)
      by_cases hlt : i < n
      · obtain ⟨b, off, e, rfl, hbw, he, hok, c0⟩ := HR.out.at_ hlt
        have c0 := (HMI.out.bel.cell (p := ⟨b, off + i, none⟩) hbw).trans c0
        obtain ⟨a, ha, d0⟩ := HMI.out.cellAt hlt
        have hen := HEN.out e (List.mem_of_getElem? he.out)
        have hel := hok.out.rd.len
        have hat := rest_at he.out ha
        rw [HRS.out] at hat
        have HTK := Lib.hid (best_take hat)
        have hbws : b < W0.heap.size := Nat.lt_of_lt_of_le hbw hM.out.bel.size
        have hgs : g < wr.heap.size := (HMI.out.at_.lt g rfl).2
        have hws : w.heap.size ≤ wr.heap.size := HMI.out.bel.size
        have hwb : b < wr.heap.size := by omega
        by_cases hae : a < e.n
        · obtain ⟨b1, o1, x, hA, hbw1, hx, p0, p1, p2⟩ := hok.out.rd.at_ hae
          have p0 := (HMI.out.bel.cell (p := ⟨b1, o1 + a * 3, none⟩) hbw1).trans p0
          have p1 := (HMI.out.bel.cell (p := ⟨b1, o1 + a * 3 + 1, none⟩) hbw1).trans p1
          have p2 := (HMI.out.bel.cell (p := ⟨b1, o1 + a * 3 + 2, none⟩) hbw1).trans p2
          have hb1s : b1 < wr.heap.size := by omega
          rw [hA] at c0
          have HDR := Lib.hid (drop_at hx.out)
          rw [HDR.out] at HTK
          cases hbst : bestFrom 0 none (rs.take i) with
          | none =>
            rw [hbst, bestMore_new] at HTK
            have hbi : bestI none = -1 := rfl
            simp only [hbi]
            go_upto_region 7 with fail
            go_quiet (fail)
            rename Nat => nq
            go_wp2
            go_roundw
            case rel => exact ⟨i + 1, by omega, by go_num, by rw [HTK.out]; rfl, Lib.hid (below_drewN (hbel.out.alloc hbel.out.size _) nq)⟩
            case measure => simp [intOf]; omega
          | some p =>
            obtain ⟨jj, y⟩ := p
            obtain ⟨hji, tt, htt⟩ := best_in hbst
            obtain ⟨b', off', e', hA', hbw', he', hok', c0'⟩ := HR.out.at_ (j := jj) (by omega)
            obtain ⟨rfl, rfl⟩ : b = b' ∧ off = off' := by injection hA' with hA'; injection hA' with h1 h2; exact ⟨h1, h2⟩
            have c0' := (HMI.out.bel.cell (p := ⟨b, off + jj, none⟩) hbw).trans c0'
            obtain ⟨a', ha', d0'⟩ := HMI.out.cellAt (j := jj) (by omega)
            have hat' := rest_at he'.out ha'
            rw [HRS.out, htt] at hat'
            have hy := drop_cons (es := e'.es) (a := a') (y := y) (t := tt) (by injection hat' with h; exact h.symm)
            have hae' : a' < e'.n := by rw [← hok'.out.rd.len]; exact (List.getElem?_eq_some_iff.1 hy).1
            have hen' := HEN.out e' (List.mem_of_getElem? he'.out)
            obtain ⟨b2, o2, y', hA2, hbw2, hy', q0, q1, q2⟩ := hok'.out.rd.at_ hae'
            obtain rfl : y' = y := by have := hy'.out; rw [hy] at this; injection this with this; exact this.symm
            have q0 := (HMI.out.bel.cell (p := ⟨b2, o2 + a' * 3, none⟩) hbw2).trans q0
            have q1 := (HMI.out.bel.cell (p := ⟨b2, o2 + a' * 3 + 1, none⟩) hbw2).trans q1
            have q2 := (HMI.out.bel.cell (p := ⟨b2, o2 + a' * 3 + 2, none⟩) hbw2).trans q2
            have hb2s : b2 < wr.heap.size := by omega
            rw [hA2] at c0'
            have hbi : bestI (some (jj, y')) = (jj : Int) := rfl
            have hji0 : (0 : Int) ≤ (jj : Int) := by omega
            have hjn : jj < n := by omega
            have CL := Lib.hid (fun W => specLess x y' W)
            have HBA := Lib.hid ((hbel.out.alloc hbel.out.size (.cells #[.slice (some ⟨b1, o1, none⟩) e.n e.c] 196)).drew)
            rw [hbst] at HTK
            simp only [hbi]
            clear hat hat' hy hy' ha ha' hel hbst htt HDR
            go_upto_region 7 with fail
            refine wp_region_still_tail 31 (by kernel_rfl) (by kernel_rfl) ?_
            simp only [List.take_succ_cons, List.take_zero, List.drop_succ_cons, List.drop_zero]
            change wpStill _ _ (World.drew _) _ _ _
            repeat still_step
            refine wpStill_nil ?_
            change wpList _ _ _ _ _ (World.drew _)
            clear c0 c0' d0 d0' p0 p1 p2 q0 q1 q2
            generalize World.drew (wr.alloc (.cells #[.slice (some ⟨b1, o1, none⟩) e.n e.c] 196)) = W1 at *
            cases hlr : lessR x y' with
            | true =>
              rw [bestMore_less hlr] at HTK
              rw [hlr] at CL
              clear hlr
              go_wp2_with fail
              refine (CL.out _).mono ?_
              rintro e1 w1 ⟨rfl, hb1⟩
              have HBB := Lib.hid (g_chain HBA.out hb1)
              clear hb1
              go_wp2
              go_roundw
              case rel => exact ⟨i + 1, by omega, by go_num, by rw [HTK.out]; rfl, HBB⟩
              case measure => simp [intOf]; omega
            | false =>
              rw [bestMore_not hlr] at HTK
              rw [hlr] at CL
              clear hlr
              go_wp2_with fail
              refine (CL.out _).mono ?_
              rintro e1 w1 ⟨rfl, hb1⟩
              have HBB := Lib.hid (g_chain HBA.out hb1)
              clear hb1
              go_wp2
              go_roundw
              case rel => exact ⟨i + 1, by omega, by go_num, by rw [HTK.out]; rfl, HBB⟩
              case measure => simp [intOf]; omega
        · have hdn : e.es.drop a = [] := List.drop_eq_nil_of_le (by omega)
          rw [hdn, bestMore_nil] at HTK
          have hge : decide ((a : Int) < (e.n : Int)) = false := decide_eq_false (by omega)
          clear hdn hat ha he hok hel
          generalize bestFrom 0 none (rs.take i) = bst at *
          go_upto_region 7 with fail
          go_quiet (fail)
          rename Nat => nq
          go_wp2
          go_roundw
          case rel => exact ⟨i + 1, by omega, by go_num, by rw [HTK.out], Lib.hid (below_drewN (hbel.out.alloc hbel.out.size _) nq)⟩
          case measure => simp [intOf]; omega
      · obtain rfl : i = n := by omega
        have HM := Lib.hid (hM.out.below hbel.out)
        have hfull : rs.take i = rs := List.take_of_length_le (by rw [HRL.out]; exact Nat.le_refl _)
        rw [hfull]
        clear hbel hM hfull
        cases hb : bestR rs with
        | none =>
          have hbi : bestI (bestFrom 0 none rs) = -1 := by rw [show bestFrom 0 none rs = none from hb]; rfl
          have HV : Hid (pre = mergeAll (bs.map BE.es)) := Lib.hid (by rw [← HM.out.all, HRS.out, merge_none hb, List.append_nil])
          rw [hbi]
          clear hb hbi
          go_wp2
          go_ret
          obtain rfl := HM.out.len
          rw [← HV.out]
          exact ⟨_, _, rfl, HM.out.row, HM.out.bel⟩
        | some p =>
          obtain ⟨j, x⟩ := p
          have hbi : bestI (bestFrom 0 none rs) = (j : Int) := by rw [show bestFrom 0 none rs = some (j, x) from hb]; rfl
          have hjl := bestR_lt hb
          rw [HRL.out] at hjl
          obtain ⟨tt, htt, -⟩ := bestR_some hb
          obtain ⟨b, off, e, rfl, hbw, he, hok, c0⟩ := HR.out.at_ hjl
          have c0 := (HM.out.bel.cell (p := ⟨b, off + j, none⟩) hbw).trans c0
          obtain ⟨a, ha, d0⟩ := HM.out.cellAt hjl
          have hat := rest_at he.out ha
          rw [HRS.out, htt] at hat
          have hy := drop_cons (es := e.es) (a := a) (y := x) (t := tt) (by injection hat with h; exact h.symm)
          have hae : a < e.n := by rw [← hok.out.rd.len]; exact (List.getElem?_eq_some_iff.1 hy).1
          have hen := HEN.out e (List.mem_of_getElem? he.out)
          obtain ⟨b1, o1, x', hA, hbw1, hy', p0, p1, p2⟩ := hok.out.rd.at_ hae
          obtain rfl : x' = x := by have := hy'.out; rw [hy] at this; injection this with this; exact this.symm
          have p0 := (HM.out.bel.cell (p := ⟨b1, o1 + a * 3, none⟩) hbw1).trans p0
          have p1 := (HM.out.bel.cell (p := ⟨b1, o1 + a * 3 + 1, none⟩) hbw1).trans p1
          have p2 := (HM.out.bel.cell (p := ⟨b1, o1 + a * 3 + 2, none⟩) hbw1).trans p2
          rw [hA] at c0
          have hj0 : (0 : Int) ≤ (j : Int) := by omega
          have HALL : Hid ((pre ++ [x']) ++ mergeAll (rest bs (ats.set j (a + 1))) = mergeAll (bs.map BE.es)) := Lib.hid (by
            rw [← HM.out.all, rest_set bs ats j a ha, HRS.out, merge_step hb, List.append_assoc]; rfl)
          have hk : k + 1 ≤ 1048576 := by
            have h1 := congrArg List.length HALL.out
            have h2 := HT.out
            have h3 := HM.out.len
            simp only [List.length_append, List.length_cons, List.length_nil] at h1
            omega
          have HA := Lib.hid ha
          have HON2 := Lib.hid (rec_one [x'])
          have hws : w.heap.size ≤ wr.heap.size := HM.out.bel.size
          rw [hbi]
          clear hat hy hy' ha htt hb hbi he hok
          go_upto_region 12 with fail
          go_region_law (refine step_append_any _ (by rfl) (.tmp 58) (.tmp 70) _ (by rfl) w.heap.size 150 j0 _ 3 24 Try.underlying148 hj jz0 jz1 jz2 rfl (by omega) (.slice P k c1) k (pre.flatMap GE.cells) (by rfl) (by first | exact own_drewS (HM.out.row.alloc _) | exact (own_drewS HM.out.row).alloc _) (wr.heap.size + 1) (some ⟨wr.heap.size, 0, none⟩) 1 1 (GE.cells x') (by rfl) (by first | exact reads_drewS (rec_reads _ x' _ _ rfl) | exact rec_reads _ x' _ _ rfl) (by simpa using HON2.out) (by simp only [maxLen]; omega) (by omega) (by simp; omega) ?_; intro v3 w3 hown3 hg3 hat3; obtain ⟨P3, c3, rfl⟩ := rec_form hown3)
          all_goals
            have hT3 := (own_drewS (HM.out.at_.alloc (.cells #[.int .i64 x'.f, .int .i64 x'.t, .int .i64 x'.w] 150))).kept hg3 (own_typesM HM.out.at_ HM.out.row (by decide))
            have y0 : w3.cell? ⟨g, j, none⟩ = some (.int .i64 (a : Int)) := (hT3.cellAt j (by omega)).trans (vn_at HA.out)
            have y1 := hT3.frozenAt j
            have HST := Lib.hid (hT3.stored j (.int .i64 ((a : Int) + 1)))
            have HSET : Hid ((vn ats).set j (.int .i64 ((a : Int) + 1)) = vn (ats.set j (a + 1))) := Lib.hid (vn_set ats j (a + 1))
            have HB3 := Lib.hid ((HM.out.bel.alloc hws (.cells #[.int .i64 x'.f, .int .i64 x'.t, .int .i64 x'.w] 150)).drew.grown hg3 (by simp; omega) (fun q hq => (HM.out.row.lt q hq).1))
            have HFAR := Lib.hid (own_typesM hown3 hT3 (by decide))
            have hgw : w.heap.size ≤ g := (hT3.lt g rfl).1
            have HO3 := Lib.hid hown3
            have HLA := Lib.hid HM.out.la
            have HLE := Lib.hid HM.out.len
            clear hown3 hg3 hat3 hT3 HM c0 d0 p0 p1 p2
            go_wp2
            go_roundw
            case rel =>
              refine ⟨P3, k + 1, c3, pre ++ [x'], ats.set j (a + 1), rfl, Lib.hid ⟨?_, ?_, by simp [HLA.out], by simp [HLE.out], ?_, HALL.out⟩⟩
              · rw [List.flatMap_append]
                have h := HO3.out.kept HST.out.2 HFAR.out
                simpa using h
              · rw [← HSET.out]
                exact HST.out.1
              · exact HB3.out.grown HST.out.2 HB3.out.size (fun q hq => by injection hq with hq; omega)
            case measure => simp [sliceLenS]; omega
end Go.Proofs.Ytpgnappddddlpaa
namespace Go.Proofs.Ytpgnappddddlpaa
open Go.RowKit

/-- A first record that may have been drawn, as its cells say. -/
def HdIs (h : Option GE) (f : GE) (b : Bool) : Prop :=
  match h with
  | none => b = false
  | some x => b = true ∧ f = x
def pairC (vl : Value) (fl : GE) (bl : Bool) (vr : Value) (fr : GE) (br : Bool) : Array Value :=
  #[vl, .int .i64 fl.f, .int .i64 fl.t, .int .i64 fl.w, .bool bl, vr, .int .i64 fr.f, .int .i64 fr.t, .int .i64 fr.w, .bool br]
/-- Whose source lies in the blocks from lo on, below hi; its lists read in the world w0. -/
def Src (w0 w : World) : Tr → Nat → Nat → Value → Prop
  | .leaf es, lo, hi, v => ∃ L A n c, lo ≤ L ∧ L < hi ∧ v = .iface 210 (.pointer (some ⟨L, 0, none⟩)) ∧ Blk w L #[.slice A n c] 212 ∧ SlG w0 A n es ∧ n ≤ c
  | .pair l hl r hr, lo, hi, v => ∃ m P vl fl bl vr fr br, lo ≤ m ∧ m ≤ P ∧ P < hi ∧ v = .iface 213 (.pointer (some ⟨P, 0, none⟩)) ∧
      Blk w P (pairC vl fl bl vr fr br) 220 ∧ HdIs hl fl bl ∧ HdIs hr fr br ∧ Src w0 w l lo m vl ∧ Src w0 w r m P vr
theorem Src.lt {w0 w : World} : ∀ {t : Tr} {lo hi : Nat} {v : Value}, Src w0 w t lo hi v → lo < hi
  | .leaf _, _, _, _, h => by
    obtain ⟨L, _, _, _, h1, h2, _⟩ := h
    omega
  | .pair _ _ _ _, _, _, _, h => by
    obtain ⟨m, P, _, _, _, _, _, _, h1, h2, h3, _⟩ := h
    omega
theorem Src.keep {w0 w w' : World} : ∀ {t : Tr} {lo hi : Nat} {v : Value}, Src w0 w t lo hi v → (∀ k, lo ≤ k → k < hi → k < w.heap.size → w'.heap[k]? = w.heap[k]?) → Src w0 w' t lo hi v
  | .leaf _, _, _, _, h, hk => by
    obtain ⟨L, A, n, c, h1, h2, h3, h4, h5⟩ := h
    exact ⟨L, A, n, c, h1, h2, h3, h4.keep (hk L h1 h2 h4.lt), h5⟩
  | .pair l _ r _, _, _, _, h, hk => by
    obtain ⟨m, P, vl, fl, bl, vr, fr, br, h1, h2, h3, h4, h5, h6, h7, h8, h9⟩ := h
    exact ⟨m, P, vl, fl, bl, vr, fr, br, h1, h2, h3, h4, h5.keep (hk P (by omega) h3 h5.lt), h6, h7, h8.keep (fun k a b c => hk k a (by omega) c), h9.keep (fun k a b c => hk k (by omega) (by omega) c)⟩
theorem Src.wide {w0 w : World} : ∀ {t : Tr} {lo hi lo' hi' : Nat} {v : Value}, Src w0 w t lo hi v → lo' ≤ lo → hi ≤ hi' → Src w0 w t lo' hi' v
  | .leaf _, _, _, _, _, _, h, ha, hb => by
    obtain ⟨L, A, n, c, h1, h2, h5⟩ := h
    exact ⟨L, A, n, c, by omega, by omega, h5⟩
  | .pair l _ r _, _, _, _, _, _, h, ha, hb => by
    obtain ⟨m, P, vl, fl, bl, vr, fr, br, h1, h2, h3, h4, h5, h6, h7, h8, h9⟩ := h
    exact ⟨m, P, vl, fl, bl, vr, fr, br, by omega, h2, by omega, h4, h5, h6, h7, h8.wide ha (Nat.le_refl _), h9⟩
/-- Nothing is written but in blocks from lo on, below hi, and new ones. -/
abbrev Within (lo hi : Nat) : World → World → Prop := OnlyB (fun k => lo ≤ k ∧ k < hi)
theorem Src.within {w0 w w' : World} {t : Tr} {lo hi a b : Nat} {v : Value} (h : Src w0 w t lo hi v) (k : Within a b w w') (hd : hi ≤ a ∨ b ≤ lo) : Src w0 w' t lo hi v :=
  h.keep (fun i h1 h2 h3 => k.block i h3 (fun e => by omega))
theorem Blk.within {w w' : World} {b : Nat} {cs : Array Value} {t : TypeId} {lo hi : Nat} (h : Blk w b cs t) (k : Within lo hi w w') (hd : b < lo ∨ hi ≤ b) : Blk w' b cs t :=
  h.keep (k.block b h.lt (fun e => by omega))
theorem Within.below {lo hi B : Nat} {w w' : World} (h : Within lo hi w w') (hB : B ≤ w.heap.size) (hl : B ≤ lo) : Below B w w' := h.toBelow hB (fun k hk => by omega)
theorem Within.wide {lo hi lo' hi' : Nat} {w w' : World} (h : Within lo hi w w') (hl : lo' ≤ lo) (hh : hi ≤ hi') : Within lo' hi' w w' := h.mono (fun k hk => by omega)
theorem Within.set {lo hi : Nat} {w w' : World} (h : Within lo hi w w') {p : Addr} (hp : lo ≤ p.block ∧ p.block < hi) (u : Value) : Within lo hi w (w'.setCell p u) :=
  h.trans ⟨rfl, rfl, rfl, by simp, fun k _ hn => Below.heap_setCell w' p u k (fun e => hn (by rw [e]; exact hp))⟩
theorem Within.drew {lo hi : Nat} {w w' : World} (h : Within lo hi w w') : Within lo hi w w'.drew := ⟨h.os, h.tape, h.output, h.size, h.block⟩
theorem Within.drewN {lo hi : Nat} {w w' : World} (h : Within lo hi w w') (n : Nat) : Within lo hi w (w'.drewN n) := ⟨h.os, h.tape, h.output, h.size, h.block⟩
theorem Within.alloc {lo hi : Nat} {w w' : World} (h : Within lo hi w w') (o : Obj) : Within lo hi w (w'.alloc o) := OnlyB.below h (below_a1 w' o)
theorem OnlyB.setNew {S : Nat → Prop} {w w' : World} (h : OnlyB S w w') {p : Addr} (hp : w.heap.size ≤ p.block) (u : Value) : OnlyB S w (w'.setCell p u) :=
  ⟨h.os, h.tape, h.output, by simpa using h.size, fun k hk hn => (Below.heap_setCell w' p u k (by omega)).trans (h.block k hk hn)⟩
theorem Within.setNew {lo hi : Nat} {w w' : World} (h : Within lo hi w w') {p : Addr} (hp : w.heap.size ≤ p.block) (u : Value) : Within lo hi w (w'.setCell p u) :=
  ⟨h.os, h.tape, h.output, by simpa using h.size, fun k hk hn => (Below.heap_setCell w' p u k (by omega)).trans (h.block k hk hn)⟩
/-- What a source's next answers. -/
def NextIs (w0 : World) (t : Tr) (lo hi : Nat) (v : Value) (w : World) (e : Ending) (w' : World) : Prop :=
  ∃ (f : GE) (b : Bool), e = .returned (.tuple #[.agg #[.int .i64 f.f, .int .i64 f.t, .int .i64 f.w], .bool b]) ∧ HdIs t.next.1 f b ∧ Src w0 w' t.next.2 lo hi v ∧ Within lo hi w w'
end Go.Proofs.Ytpgnappddddlpaa
