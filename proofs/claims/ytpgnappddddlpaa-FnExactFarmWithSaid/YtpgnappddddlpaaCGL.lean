/- Farms as data: one with other values; locations, and writing back (plain lemmas; no condition). // The program's shard with other values. Condition: at most 2^20 edges and 2^20 values. // Lists of numbers of a call's own: small words (plain lemmas over the model; no condition). // Lists of values: the program's test of one. Condition: at most 2^21 numbers. // The contract of the model's l11Vals. Condition: at most 2^21 numbers. -/
import Derived.Test.YtpgnappddddlpaaCGC
import Derived.Test.YtpgnappddddlpaaCGJ
import Derived.Test.YtpgnappddddlpaaCGD
import Derived.Test.YtpgnappddddlpaaCGA
import Derived.Test.YtpgnappddddlpaaCGB
namespace Go.Proofs.Ytpgnappddddlpaa
open Go.RowKit

/-! ### other values -/
def withS (vals : List Int) (s : SD) : SD := (s.1, s.2.1, s.2.2.map (KE.put vals))
def withB (N : Int) (E : List Int) (l : List SD) (vals : List Int) : Bool := farmB N E l && (decide (vals.length = (flatK l).length) && valsB vals)
def fwN (N : Int) (E : List Int) (l : List SD) (vals : List Int) : Int := if withB N E l vals then N else 0
def fwE (N : Int) (E : List Int) (l : List SD) (vals : List Int) : List Int := if withB N E l vals then E else []
def fwL (N : Int) (E : List Int) (l : List SD) (vals : List Int) : List SD := if withB N E l vals then l.map (withS vals) else []
theorem fw_no {N : Int} {E : List Int} {l : List SD} {vals : List Int} (h : withB N E l vals = false) : fwN N E l vals = 0 ∧ fwE N E l vals = [] ∧ fwL N E l vals = [] := by simp [fwN, fwE, fwL, h]
theorem fw_yes {N : Int} {E : List Int} {l : List SD} {vals : List Int} (h : withB N E l vals = true) : fwN N E l vals = N ∧ fwE N E l vals = E ∧ fwL N E l vals = l.map (withS vals) := by simp [fwN, fwE, fwL, h]
theorem with_no1 {N : Int} {E : List Int} {l : List SD} {vals : List Int} (h : farmB N E l = false) : withB N E l vals = false := by simp [withB, h]
theorem with_no2 {N : Int} {E : List Int} {l : List SD} {vals : List Int} (h : (decide (vals.length = (flatK l).length) && valsB vals) = false) : withB N E l vals = false := by simp [withB, h]
theorem with_yes {N : Int} {E : List Int} {l : List SD} {vals : List Int} (h : farmB N E l = true) (h2 : (decide (vals.length = (flatK l).length) && valsB vals) = true) : withB N E l vals = true := by simp [withB, h, h2]
theorem withB_iff {N : Int} {E : List Int} {l : List SD} {vals : List Int} (h : withB N E l vals = true) : farmB N E l = true ∧ vals.length = (flatK l).length ∧ ∀ x ∈ vals, valB x = true := by
  unfold withB valsB at h
  rw [Bool.and_eq_true, Bool.and_eq_true, decide_eq_true_eq, List.all_eq_true] at h
  exact ⟨h.1, h.2.1, h.2.2⟩
/-- Every shard takes the values. -/
theorem with_each {N : Int} {E : List Int} {l : List SD} {vals : List Int} (h : withB N E l vals = true) {s : SD} (hs : s ∈ l) : valsK s.1 s.2.1 s.2.2 vals = true := by
  obtain ⟨h1, h2, h3⟩ := withB_iff h
  have hj := (farmB_iff h1).2.2
  unfold valsK
  rw [chain_each (joinB_chain hj) s hs, Bool.true_and, List.all_eq_true]
  intro e he
  have hm : e ∈ flatK l := List.mem_flatMap.2 ⟨s, hs, he⟩
  have hi := (join_inds hj).2.1 e hm
  obtain ⟨j, hjj⟩ : ∃ j : Nat, e.i = (j : Int) := ⟨e.i.toNat, by omega⟩
  have hjl : j < vals.length := by omega
  have hv := h3 _ (List.getElem_mem hjl)
  unfold valB at hv
  rw [decide_eq_true_eq] at hv
  unfold valAt numOk
  rw [if_pos (by omega), hjj, Int.toNat_natCast, List.getElem?_eq_getElem hjl, decide_eq_true_eq]
  simp only [Option.getD_some]
  omega
theorem flatK_with (vals : List Int) : ∀ l : List SD, flatK (l.map (withS vals)) = (flatK l).map (KE.put vals)
  | [] => rfl
  | s :: r => by
    rw [List.map_cons, flatK_cons, flatK_cons, List.map_append, flatK_with vals r]
    rfl
theorem fw_few {N : Int} {E : List Int} {l : List SD} {vals : List Int} : (fwE N E l vals).length ≤ 150 ∧ (fwL N E l vals).length + (flatK (fwL N E l vals)).length ≤ 550 := by
  cases h : withB N E l vals with
  | false => obtain ⟨_, e2, e3⟩ := fw_no h; rw [e2, e3]; simp [flatK]
  | true =>
    obtain ⟨_, e2, e3⟩ := fw_yes h
    have h1 := (withB_iff h).1
    have h2 := farm_few h1
    have h3 := (farm_inds h1).1
    have h4 := farm_len h1
    rw [e2, e3, flatK_with, List.length_map, List.length_map]
    omega

/-! ### locations -/
structure LE where
  s : Int
  p : Int
  e : KE
def LE.cells (x : LE) : List Value := [.int .i64 x.s, .int .i64 x.p, .int .i64 x.e.f, .int .i64 x.e.t, .int .i64 x.e.w, .int .i64 x.e.i, .int .i64 x.e.v]
theorem LE.cells_len (x : LE) : x.cells.length = 7 := rfl
theorem LE.cells_one (x : LE) : ∀ u ∈ x.cells, u.oneCell' = true := by
  intro u hu
  simp [LE.cells] at hu
  rcases hu with rfl | rfl | rfl | rfl | rfl | rfl | rfl <;> rfl
theorem le_one (es : List LE) : ∀ u ∈ es.flatMap LE.cells, u.oneCell' = true := fun u hu => by
  obtain ⟨e, _, he⟩ := List.mem_flatMap.1 hu
  exact e.cells_one u he
def sameE (a b : KE) : Bool := decide (a.f = b.f ∧ a.t = b.t ∧ a.w = b.w ∧ a.i = b.i)
def fitE (es : List KE) (x : LE) : Bool := decide (0 ≤ x.p) && (match es[x.p.toNat]? with | some e => sameE e x.e | none => false)
def fitB (l : List SD) (x : LE) : Bool := decide (0 ≤ x.s) && (valB x.e.v && (match l[x.s.toNat]? with | some s => fitE s.2.2 x | none => false))
def putE (l : List SD) (x : LE) : List SD := match l[x.s.toNat]? with
  | some s => l.set x.s.toNat (s.1, s.2.1, s.2.2.set x.p.toNat x.e)
  | none => l
def putL (l : List SD) (xs : List LE) : List SD := xs.foldl putE l
theorem putE_len (l : List SD) (x : LE) : (putE l x).length = l.length := by
  unfold putE
  split
  · rw [List.length_set]
  · rfl
theorem putL_len : ∀ (xs : List LE) (l : List SD), (putL l xs).length = l.length
  | [], _ => rfl
  | x :: r, l => by
    show (putL (putE l x) r).length = l.length
    rw [putL_len r, putE_len]
theorem putL_step {l : List SD} {xs : List LE} {k : Nat} {x : LE} (h : xs[k]? = some x) : putL l (xs.take (k + 1)) = putE (putL l (xs.take k)) x := by
  rw [g_take xs k x h]
  unfold putL
  rw [List.foldl_append]
  rfl
theorem fitB_iff {l : List SD} {x : LE} (h : fitB l x = true) : 0 ≤ x.s ∧ valB x.e.v = true ∧ 0 ≤ x.p ∧ ∃ s e, l[x.s.toNat]? = some s ∧ s.2.2[x.p.toNat]? = some e ∧ e.f = x.e.f ∧ e.t = x.e.t ∧ e.w = x.e.w ∧ e.i = x.e.i := by
  unfold fitB at h
  rw [Bool.and_eq_true, Bool.and_eq_true, decide_eq_true_eq] at h
  obtain ⟨h1, h2, h3⟩ := h
  cases hs : l[x.s.toNat]? with
  | none => rw [hs] at h3; cases h3
  | some s =>
    rw [hs] at h3
    simp only at h3
    unfold fitE at h3
    rw [Bool.and_eq_true, decide_eq_true_eq] at h3
    cases he : s.2.2[x.p.toNat]? with
    | none => rw [he] at h3; cases h3.2
    | some e =>
      rw [he] at h3
      have h4 := of_decide_eq_true h3.2
      exact ⟨h1, h2, h3.1, s, e, rfl, he, h4⟩
/-- What an edge says but for its value stays when a fitting location is written. -/
theorem edge_put {l : List SD} {y : LE} (hy : fitB l y = true) (i j : Nat) : ((putE l y)[i]?).bind (fun s => (s.2.2[j]?).map (fun e => (e.f, e.t, e.w, e.i))) = (l[i]?).bind (fun s => (s.2.2[j]?).map (fun e => (e.f, e.t, e.w, e.i))) := by
  obtain ⟨h1, h2, h3, s, e, hs, he, h4, h5, h6, h7⟩ := fitB_iff hy
  unfold putE
  rw [hs]
  simp only
  rw [List.getElem?_set]
  by_cases hi : y.s.toNat = i
  · subst hi
    rw [if_pos rfl, if_pos (List.getElem?_eq_some_iff.1 hs).1, hs]
    simp only [Option.bind_some]
    rw [List.getElem?_set]
    by_cases hj : y.p.toNat = j
    · subst hj
      rw [if_pos rfl, if_pos (List.getElem?_eq_some_iff.1 he).1, he]
      simp [h4, h5, h6, h7]
    · rw [if_neg hj]
  · rw [if_neg hi]
theorem fit_form (l : List SD) (x : LE) : fitB l x = (decide (0 ≤ x.s) && (valB x.e.v && (decide (0 ≤ x.p) && decide ((l[x.s.toNat]?).bind (fun s => (s.2.2[x.p.toNat]?).map (fun e => (e.f, e.t, e.w, e.i))) = some (x.e.f, x.e.t, x.e.w, x.e.i))))) := by
  unfold fitB
  congr 2
  cases hs : l[x.s.toNat]? with
  | none => simp
  | some s =>
    simp only [Option.bind_some]
    unfold fitE
    congr 1
    rcases Option.eq_none_or_eq_some (s.2.2[x.p.toNat]?) with he | ⟨e, he⟩
    · simp [he]
    · simp [he, sameE]
theorem fit_put {l : List SD} {y x : LE} (hy : fitB l y = true) : fitB (putE l y) x = fitB l x := by
  rw [fit_form, fit_form, edge_put hy]
theorem fit_putL {x : LE} : ∀ {xs : List LE} {l : List SD}, (∀ y ∈ xs, fitB l y = true) → fitB (putL l xs) x = fitB l x
  | [], _, _ => rfl
  | y :: r, l, h => by
    show fitB (putL (putE l y) r) x = fitB l x
    have hy := h y (by simp)
    rw [fit_putL (fun z hz => by rw [fit_put hy]; exact h z (by simp [hz])), fit_put hy]
def putB (N : Int) (E : List Int) (l : List SD) (xs : List LE) : Bool := farmB N E l && xs.all (fitB l)
def fpN (N : Int) (E : List Int) (l : List SD) (xs : List LE) : Int := if putB N E l xs then N else 0
def fpE (N : Int) (E : List Int) (l : List SD) (xs : List LE) : List Int := if putB N E l xs then E else []
def fpL (N : Int) (E : List Int) (l : List SD) (xs : List LE) : List SD := if putB N E l xs then putL l xs else []
theorem fp_no {N : Int} {E : List Int} {l : List SD} {xs : List LE} (h : putB N E l xs = false) : fpN N E l xs = 0 ∧ fpE N E l xs = [] ∧ fpL N E l xs = [] := by simp [fpN, fpE, fpL, h]
theorem fp_yes {N : Int} {E : List Int} {l : List SD} {xs : List LE} (h : putB N E l xs = true) : fpN N E l xs = N ∧ fpE N E l xs = E ∧ fpL N E l xs = putL l xs := by simp [fpN, fpE, fpL, h]
theorem put_no1 {N : Int} {E : List Int} {l : List SD} {xs : List LE} (h : farmB N E l = false) : putB N E l xs = false := by simp [putB, h]
theorem put_no2 {N : Int} {E : List Int} {l : List SD} {xs : List LE} {x : LE} (hx : x ∈ xs) (h : fitB l x = false) : putB N E l xs = false := by
  unfold putB
  rw [Bool.and_eq_false_iff]
  exact .inr (List.all_eq_false.2 ⟨x, hx, by simp [h]⟩)
theorem put_yes {N : Int} {E : List Int} {l : List SD} {xs : List LE} (h : farmB N E l = true) (h2 : ∀ x ∈ xs, fitB l x = true) : putB N E l xs = true := by
  unfold putB
  rw [h, List.all_eq_true.2 h2]
  rfl
theorem flat_set_len : ∀ (l : List SD) (i : Nat) (s t : SD), l[i]? = some s → t.2.2.length = s.2.2.length → (flatK (l.set i t)).length = (flatK l).length
  | [], _, _, _, h, _ => by simp at h
  | a :: r, 0, s, t, h, hl => by
    have : a = s := by simpa using h
    subst this
    rw [List.set_cons_zero, flatK_cons, flatK_cons, List.length_append, List.length_append, hl]
  | a :: r, i + 1, s, t, h, hl => by
    rw [List.set_cons_succ, flatK_cons, flatK_cons, List.length_append, List.length_append, flat_set_len r i s t (by simpa using h) hl]
theorem putE_flat (l : List SD) (x : LE) : (flatK (putE l x)).length = (flatK l).length := by
  unfold putE
  split
  · rename_i s hs
    exact flat_set_len l _ s _ hs (by simp)
  · rfl
theorem putL_flat : ∀ (xs : List LE) (l : List SD), (flatK (putL l xs)).length = (flatK l).length
  | [], _ => rfl
  | x :: r, l => by
    show (flatK (putL (putE l x) r)).length = (flatK l).length
    rw [putL_flat r, putE_flat]
theorem fp_few {N : Int} {E : List Int} {l : List SD} {xs : List LE} : (fpE N E l xs).length ≤ 150 ∧ (fpL N E l xs).length + (flatK (fpL N E l xs)).length ≤ 550 := by
  cases h : putB N E l xs with
  | false => obtain ⟨_, e2, e3⟩ := fp_no h; rw [e2, e3]; simp [flatK]
  | true =>
    obtain ⟨_, e2, e3⟩ := fp_yes h
    have h1 : farmB N E l = true := by unfold putB at h; rw [Bool.and_eq_true] at h; exact h.1
    have h2 := farm_few h1
    have h3 := (farm_inds h1).1
    have h4 := farm_len h1
    rw [e2, e3, putL_flat, putL_len]
    omega
end Go.Proofs.Ytpgnappddddlpaa
namespace Go.Proofs.Ytpgnappddddlpaa
open Go.RowKit

set_option maxRecDepth 20000 in
set_option maxHeartbeats 4000000 in
theorem implWithVals (lo hi : Int) (A : Option Addr) (n c : Nat) (es : List KE) (E : Option Addr) (m d : Nat) (l : List Int) (w : World) (hr : SlK w A n es) (hn : n ≤ 1048576) (h2 : SlI w E m l) (_hm : m ≤ 1048576) :
    Calls Try.prog 58 #[.agg #[.int .i64 lo, .int .i64 hi, .slice A n c], .slice E m d] w (MadeShB w (valsLo lo hi es l) (valsHi lo hi es l) (valsR lo hi es l) (valsK lo hi es l)) := by
  obtain ⟨i0, hi0, hz0, hz1, hz2⟩ := info_parts Try.infoSEdge
  have HS := Lib.hid hr
  have HI := Lib.hid h2
  have HL := Lib.hid hr.len
  have HLL := Lib.hid h2.len
  have CO := Lib.hid (fun W (h : Below w.heap.size w W) => implShardOk lo hi A n c es W (hr.below h) hn)
  have B0 := Lib.hid ((SBlk.new w lo hi A n c).below (below_a1 _ (.cells #[.int .i64 0, .int .i64 0, .slice none 0 0] 85)))
  have Z0 : Hid (SBlk ((w.alloc (.cells #[.int .i64 lo, .int .i64 hi, .slice A n c] 85)).alloc (.cells #[.int .i64 0, .int .i64 0, .slice none 0 0] 85)) (w.heap.size + 1) 0 0 none 0 0) := Lib.hid (by
    have h := SBlk.new (w.alloc (.cells #[.int .i64 lo, .int .i64 hi, .slice A n c] 85)) 0 0 none 0 0
    simpa using h)
  have H0 := Lib.hid (below_a2 w (.cells #[.int .i64 lo, .int .i64 hi, .slice A n c] 85) (.cells #[.int .i64 0, .int .i64 0, .slice none 0 0] 85))
  cases hv : shardB lo hi es with
  | false =>
    rw [hv] at CO
    have hno : valsK lo hi es l = false := by simp [valsK, hv]
    obtain ⟨e1, e2, e3⟩ := valsK_no hno
    rw [hno, e1, e2, e3]
    clear hr hv h2 hno e1 e2 e3
    go_enter Try.func58, Try.ntmps58
    go_wp2_with fail
    refine (CO.out _ H0.out).mono ?_
    rintro e w1 ⟨rfl, hb⟩
    have HB := Lib.hid (g_chain H0.out hb)
    obtain ⟨z0, z1, z2⟩ := (Z0.out.below hb).cells
    have f0 := Blk.frozen (Z0.out.below hb) 0
    have f1 := Blk.frozen (Z0.out.below hb) 1
    have f2 := Blk.frozen (Z0.out.below hb) 2
    clear hb
    go_wp2
    refine bodyPost_ret (v := .tuple #[.agg #[.int .i64 0, .int .i64 0, .slice none 0 0], .bool false]) (by simp [results, Try.results58, go_sem, z0, z1, z2]) rfl ?_
    exact MadeShB.no w _ (by repeat (first | exact HB.out | refine Below.setCell ?_ (by simp) _))
  | true =>
    rw [hv] at CO
    obtain ⟨l0, l1, l2, l3, hrun⟩ := shardB_iff hv
    have HD := Lib.hid (dif_at l0 l2 es (-1) 0 ⟨0, lo, 0, 0, 0⟩ hrun (nr_first l1))
    have HV := Lib.hid hv
    have hn4 : n ≤ 400 := by rw [← HL.out]; exact l3
    clear hr hv hrun h2 l3
    go_enter Try.func58, Try.ntmps58
    go_wp2_with fail
    refine (CO.out _ H0.out).mono ?_
    rintro e w1 ⟨rfl, hb⟩
    have B1 := Lib.hid (B0.out.below hb)
    have Z1 := Lib.hid (Z0.out.below hb)
    have H1 := Lib.hid (g_chain H0.out hb)
    have hw1 : w.heap.size + 1 < w1.heap.size := Blk.lt Z1.out
    clear hb
    obtain ⟨bl, b0, b1, b2⟩ := B1.out.hbox
    have HB2 := Lib.hid (below_a1 w1 (.cells #[.int .i64 lo, .int .i64 hi, .slice none 0 0] 85))
    have S2 := Lib.hid (SBlk.new w1 lo hi none 0 0)
    have Z2 := Lib.hid (Z1.out.below HB2.out)
    have H2 := Lib.hid (g_chain H1.out HB2.out)
    go_wp2
    clear bl b0 b1 b2
    go_loopw [8, 21] (fun _ i wr => ∃ (j : Nat) (A1 : Option Addr) (c1 : Nat) (ks : List KE), j ≤ n ∧ i = .int .i64 (j : Int) ∧ Hid (ks = (es.take j).map (KE.put l)) ∧ Hid ((es.take j).all (fun e => numOk (valAt l e.i)) = true) ∧ Hid (wr.ownsRow w.heap.size 40 5 (.slice A1 ks.length c1) ks.length (ks.flatMap KE.cells)) ∧ Hid (SBlk wr w1.heap.size lo hi A1 ks.length c1) ∧ Hid (SBlk wr (w.heap.size + 1) 0 0 none 0 0) ∧ Hid (Below w.heap.size w wr)) (fun _ i _ => n - (intOf i).toNat)
    case atStart => exact ⟨0, none, 0, [], Nat.zero_le _, rfl, Lib.hid (by simp), Lib.hid (by simp), Lib.hid (World.ownsRow_nil _ _ _ _), S2, Z2, H2⟩
    case round =>
      clear S2 Z2 H2 HB2 Z1 B1 H1
      obtain ⟨j, A1, c1, ks, hj, rfl, hks, hall, hown, hsb, hzb, hbel⟩ := hrel
      by_cases hlt : j < n
      · obtain ⟨b, off, e, rfl, hbw, he, c00, c01, c02, c03, c04⟩ := (HS.out.below hbel.out).at_ hlt
        have hke := kedgeB_iff (HD.out j e he.out).2
        have hkl : ks.length ≤ 400 := by rw [hks.out, List.length_map, List.length_take]; omega
        have HBA := Lib.hid (below_a1 wr (.cells #[.int .i64 e.f, .int .i64 e.t, .int .i64 e.w, .int .i64 e.i, .int .i64 e.v] 40))
        have HSTM := Lib.hid (map_step l es j e he.out)
        have HSTV := Lib.hid (valsK_step l es j e he.out)
        have HBAD := Lib.hid (fun h => valsK_no (vals_bad (lo := lo) (hi := hi) (l := l) he.out h))
        have HBAD2 := Lib.hid (fun h => vals_bad (lo := lo) (hi := hi) (l := l) he.out h)
        have hzw : w.heap.size + 1 < wr.heap.size := Blk.lt hzb.out
        have hsw : w1.heap.size < wr.heap.size := Blk.lt hsb.out
        obtain ⟨k, hk⟩ : ∃ k : Nat, e.i = (k : Int) := ⟨e.i.toNat, by omega⟩
        have G1 := Lib.hid (g_chain hbel.out HBA.out)
        rw [hk] at c03 hke G1
        by_cases hkm : k < m
        · obtain ⟨vb0, voff, x, rfl, hvb, hx, hc⟩ := (HI.out.below G1.out).at_ hkm
          have HVA : Hid (valAt l e.i = x) := Lib.hid (by rw [hk]; exact valAt_in hx.out)
          cases hq : numOk x with
          | false =>
            have HE := Lib.hid (HBAD.out (by rw [HVA.out]; exact hq))
            have HE2 := Lib.hid (HBAD2.out (by rw [HVA.out]; exact hq))
            have hqx : x < 0 ∨ 281474976710655 < x := by
              have := of_decide_eq_false hq
              omega
            have CN := Lib.hid (fun W => implNum_no x W hqx)
            obtain ⟨z0, z1, z2⟩ := hzb.out.cells
            have f0 := Blk.frozen hzb.out 0
            have f1 := Blk.frozen hzb.out 1
            have f2 := Blk.frozen hzb.out 2
            clear hq hqx hke hx he
            go_wp2_with (go_at_call 107; refine (CN.out _).mono ?_; rintro e w' ⟨rfl, rfl⟩)
            refine bodyPost_ret (v := .tuple #[.agg #[.int .i64 0, .int .i64 0, .slice none 0 0], .bool false]) (by simp [results, Try.results58, go_sem, z0, z1, z2, hzw]) rfl ?_
            rw [HE2.out, HE.out.1, HE.out.2.1, HE.out.2.2]
            exact MadeShB.no w _ (by repeat (first | exact hbel.out | refine Below.setCell ?_ (by simp) _ | refine Below.alloc ?_ (by simp; omega) _))
          | true =>
            have hqx : 0 ≤ x ∧ x ≤ 281474976710655 := of_decide_eq_true hq
            have CN := Lib.hid (fun W => implNum_yes x W hqx.1 hqx.2)
            have HALL : Hid ((es.take (j + 1)).all (fun e => numOk (valAt l e.i)) = true) := Lib.hid (by rw [HSTV.out, hall.out, HVA.out, hq]; rfl)
            have HKS : Hid (ks ++ [(⟨e.f, e.t, e.w, (k : Int), x⟩ : KE)] = (es.take (j + 1)).map (KE.put l)) := Lib.hid (by rw [HSTM.out, hks.out, ← hk]; unfold KE.put; rw [HVA.out])
            have HON := Lib.hid (five_cells ⟨e.f, e.t, e.w, (k : Int), x⟩)
            clear hq hqx hke hx he HBAD HBAD2
            obtain ⟨s0, s1, s2⟩ := hsb.out.cells
            go_wp2_with (first
              | (go_at_call 107; refine (CN.out _).mono ?_; rintro e' w' ⟨rfl, rfl⟩)
              | (at_builtin; refine wpList_append_any _ rfl (.tmp 47) (.tmp 49) _ rfl w.heap.size 40 i0 _ 5 40 Try.underlying83 hi0 hz0 hz1 hz2 rfl (by omega) (.slice A1 ks.length c1) ks.length (ks.flatMap KE.cells) rfl ?o1 ?B (some ⟨wr.heap.size + 1, 0, none⟩) 1 1 [.int .i64 e.f, .int .i64 e.t, .int .i64 e.w, .int .i64 (k : Int), .int .i64 x] rfl ?o2 HON.out (by simp only [maxLen]; omega) (by omega) ?o3 ?_))
            case o1 => exact own_below hown.out (below_a2 wr _ _)
            case B => exact wr.heap.size + 1 + 1
            case o2 => exact five_reads (wr.alloc _) ⟨e.f, e.t, e.w, (k : Int), x⟩ _ (wr.heap.size + 1) (by simp)
            case o3 => simp; omega
            intro v4 w4 hown4 hg4 _
            obtain ⟨A4, c4, rfl⟩ := pk_form hown4
            have HB2 := Lib.hid (below_a2 wr (.cells #[.int .i64 e.f, .int .i64 e.t, .int .i64 e.w, .int .i64 (k : Int), .int .i64 x] 40) (.cells #[.int .i64 e.f, .int .i64 e.t, .int .i64 e.w, .int .i64 (k : Int), .int .i64 x] 40))
            have S4 : Hid (SBlk w4 w1.heap.size lo hi A1 ks.length c1) := Lib.hid ((Blk.below hsb.out HB2.out).grown hg4 (own_type hown.out hsb.out (by decide)))
            have Z4 : Hid (SBlk w4 (w.heap.size + 1) 0 0 none 0 0) := Lib.hid ((Blk.below hzb.out HB2.out).grown hg4 (own_type hown.out hzb.out (by decide)))
            have G4 : Hid (Below w.heap.size w w4) := Lib.hid ((g_chain hbel.out HB2.out).grown hg4 (by have := hbel.out.size; simp; omega) (fun q hq => (hown.out.lt q hq).1))
            have hle : ks.length + 1 = (ks ++ [(⟨e.f, e.t, e.w, (k : Int), x⟩ : KE)]).length := by simp
            have O4 : Hid (w4.ownsRow w.heap.size 40 5 (.slice A4 (ks ++ [(⟨e.f, e.t, e.w, (k : Int), x⟩ : KE)]).length c4) (ks ++ [(⟨e.f, e.t, e.w, (k : Int), x⟩ : KE)]).length ((ks ++ [(⟨e.f, e.t, e.w, (k : Int), x⟩ : KE)]).flatMap KE.cells)) := Lib.hid (by rw [ke_flat, ← hle]; exact hown4)
            rw [hle]
            generalize ks ++ [(⟨e.f, e.t, e.w, (k : Int), x⟩ : KE)] = ks4 at HKS O4 hle
            have O5 := Lib.hid (own_apart (i := 2) (u := .slice A4 ks4.length c4) O4.out (own_type O4.out S4.out (by decide)))
            have S5 := Lib.hid (SBlk.edges (A' := A4) (n' := ks4.length) (c' := c4) S4.out)
            have Z5 : Hid (SBlk _ (w.heap.size + 1) 0 0 none 0 0) := Lib.hid (Blk.other Z4.out (p := ⟨w1.heap.size, 2, none⟩) (Nat.ne_of_lt hw1) (.slice A4 ks4.length c4))
            have G5 := Lib.hid (G4.out.setCell (p := ⟨w1.heap.size, 2, none⟩) (by show w.heap.size ≤ w1.heap.size; omega) (.slice A4 ks4.length c4))
            obtain ⟨-, -, s2'⟩ := S4.out.cells
            have sf2 := Blk.frozen S4.out 2
            clear s0 s1 s2 hown4 hg4 hle
            go_wp2
            go_roundw
            case rel => exact ⟨j + 1, A4, c4, ks4, by omega, by go_num, HKS, HALL, O5, S5, Z5, G5⟩
            case measure => simp [intOf]; omega
        · have HE := Lib.hid (HBAD.out (valAt_out (by rw [HLL.out, hk]; omega)))
          have HE2 := Lib.hid (HBAD2.out (valAt_out (by rw [HLL.out, hk]; omega)))
          have hkm2 : (m : Int) ≤ (k : Int) := by omega
          obtain ⟨z0, z1, z2⟩ := hzb.out.cells
          have f0 := Blk.frozen hzb.out 0
          have f1 := Blk.frozen hzb.out 1
          have f2 := Blk.frozen hzb.out 2
          clear hke he
          go_wp2
          refine bodyPost_ret (v := .tuple #[.agg #[.int .i64 0, .int .i64 0, .slice none 0 0], .bool false]) (by simp [results, Try.results58, go_sem, z0, z1, z2, hzw]) rfl ?_
          rw [HE2.out, HE.out.1, HE.out.2.1, HE.out.2.2]
          exact MadeShB.no w _ (by repeat (first | exact hbel.out | refine Below.setCell ?_ (by simp) _ | refine Below.alloc ?_ (by simp; omega) _))
      · obtain rfl : j = n := by omega
        have hyes : valsK lo hi es l = true := vals_all HV.out (by have h := hall.out; rw [List.take_of_length_le (by rw [HL.out]; exact Nat.le_refl _)] at h; exact h)
        have HE := Lib.hid (valsK_yes hyes)
        have HE2 := Lib.hid hyes
        have HE3 : Hid (es.map (KE.put l) = ks) := Lib.hid (by rw [hks.out, List.take_of_length_le (by rw [HL.out]; exact Nat.le_refl _)])
        obtain ⟨z0, z1, z2⟩ := hzb.out.cells
        obtain ⟨s0, s1, s2⟩ := hsb.out.cells
        have f0 := Blk.frozen hzb.out 0
        have f1 := Blk.frozen hzb.out 1
        have f2 := Blk.frozen hzb.out 2
        have O2 := Lib.hid (own_type hown.out hzb.out (by decide))
        clear hyes
        go_wp2
        refine bodyPost_ret (v := .tuple #[.agg #[.int .i64 lo, .int .i64 hi, .slice A1 ks.length c1], .bool true]) (by simp [results, Try.results58, go_sem, z0, z1, z2]) rfl ?_
        rw [HE2.out, HE.out.1, HE.out.2.1, HE.out.2.2, HE3.out]
        exact ⟨A1, c1, rfl, own_apart (own_apart (own_apart hown.out O2.out) O2.out) O2.out, by repeat (first | exact hbel.out | refine Below.setCell ?_ (by simp) _)⟩
end Go.Proofs.Ytpgnappddddlpaa
namespace Go.Proofs.Ytpgnappddddlpaa
open Go.RowKit

theorem lab_reads (w : World) (u : Value) (t : TypeId) (g : Nat) (hg : g = w.heap.size) : Reads (w.alloc (.cells #[u] t)) (g + 1) 1 (some ⟨g, 0, none⟩) 1 [u] := by
  subst hg
  refine ⟨rfl, fun _ => ⟨_, rfl, by simp, fun j x hj => ?_⟩⟩
  match j, hj with
  | 0, hj => simp at hj; subst hj; simp [Addr.add]
theorem lab_built (w : World) : (w.alloc (.cells #[] 3)).ownsRow w.heap.size 3 1 (.slice (some ⟨w.heap.size, 0, none⟩) 0 0) 0 [] :=
  World.ownsRow_lit w #[] 0 (Nat.le_refl _) (by unfold maxLen; omega) rfl
theorem lab_form {w : World} {base e size n : Nat} {v : Value} {xs : List Value} (h : w.ownsRow base e size v n xs) : ∃ A c, v = .slice A n c := by
  rcases h.2 with ⟨rfl, rfl⟩ | ⟨g, cap, _, rfl, _⟩
  · exact ⟨_, _, rfl⟩
  · exact ⟨_, _, rfl⟩
theorem lab_one (x : Int) : ∀ u ∈ [Value.int .i64 x], u.oneCell' = true := by
  intro u hu
  simp at hu
  subst hu
  rfl
theorem lab_snoc (xs : List Int) (x : Int) : vi (xs ++ [x]) = vi xs ++ [.int .i64 x] := by rw [vi_append]; rfl
theorem lab_ne {w : World} {lo e size n b : Nat} {v : Value} {xs : List Value} (h : w.ownsRow lo e size v n xs) (hb : w.heap.size ≤ b) : v.ownBlock ≠ some b := fun e => by have := (h.lt b e).2; omega
theorem lab_below {w W W' : World} {lo e size n : Nat} {v : Value} {xs : List Value} (hb : Below lo w W) (ho : W.ownsRow lo e size v n xs) (hs : lo ≤ W.heap.size) (hg : W.grownBy W' v.ownBlock) : Below lo w W' :=
  hb.grown hg hs (fun k hk => (ho.lt k hk).1)
/-- New numbers. -/
def MadeZ (w : World) (xs : List Int) (e : Ending) (w' : World) : Prop :=
  ∃ A c, e = .returned (.slice A xs.length c) ∧ w'.ownsRow w.heap.size 3 1 (.slice A xs.length c) xs.length (vi xs) ∧ Below w.heap.size w w'
end Go.Proofs.Ytpgnappddddlpaa
namespace Go.Proofs.Ytpgnappddddlpaa
open Go.RowKit
set_option linter.unusedVariables false

theorem badValue (x : Int) (w : World) : Calls Try.prog 104 #[.int .i64 x] w fun e w' => e = .returned (.bool (!valB x)) ∧ w = w' := by
  have C := Lib.hid (fun W => implIsValue x W)
  generalize valB x = b at C ⊢
  go_enter Try.func104, Try.ntmps104
  go_wp2_with fail
  refine (C.out _).mono ?_
  rintro e w1 ⟨rfl, rfl⟩
  go_wp2
  go_ret
  exact ⟨rfl, rfl⟩
theorem vals_no {xs : List Int} {k : Nat} {x : Int} (h : xs[k]? = some x) (hx : valB x = false) : valsB xs = false := by
  unfold valsB
  rw [List.all_eq_false]
  exact ⟨x, List.mem_of_getElem? h, by simp [hx]⟩
theorem vals_step {xs : List Int} {k : Nat} {x : Int} (h : xs[k]? = some x) (ha : ∀ y ∈ xs.take k, valB y = true) (hx : valB x = true) : ∀ y ∈ xs.take (k + 1), valB y = true := by
  rw [g_take xs k x h]
  intro y hy
  rcases List.mem_append.1 hy with hy | hy
  · exact ha y hy
  · rw [List.mem_singleton.1 hy]; exact hx
theorem vals_yes {xs : List Int} (ha : ∀ y ∈ xs.take xs.length, valB y = true) : valsB xs = true := by
  rw [List.take_length] at ha
  unfold valsB
  rw [List.all_eq_true]
  exact ha
set_option maxRecDepth 10000 in
set_option maxHeartbeats 1000000 in
theorem indexBad (A : Option Addr) (n c : Nat) (xs : List Int) (w : World) (hr : SlI w A n xs) (hn : n ≤ 2097152) :
    Calls Try.prog 143 #[.slice A n c, .func (.func 104) #[] #[]] w fun e w' => ∃ z : Int, e = .returned (.int .i64 z) ∧ decide (0 ≤ z) = !valsB xs ∧ w = w' := by
  have HR := Lib.hid hr
  have HL := Lib.hid hr.len
  clear hr
  have CB := Lib.hid (fun x W => badValue x W)
  go_enter Try.func143, Try.ntmps143
  go_wp2
  go_loopw [8] (fun i wr => ∃ k : Nat, k ≤ n ∧ i = .int .i64 (k : Int) ∧ Hid (∀ y ∈ xs.take k, valB y = true) ∧ wr = w) (fun i _ => n - (intOf i).toNat)
  case atStart => exact ⟨0, Nat.zero_le _, rfl, Lib.hid (by simp), by first | rfl | trivial⟩
  case round =>
    obtain ⟨k, hk, rfl, hok, rfl⟩ := hrel
    by_cases hlt : k < n
    · obtain ⟨b, off, x, rfl, hbw, hx, c0⟩ := HR.out.at_ hlt
      have C := Lib.hid (fun W => CB.out x W)
      cases hv : valB x with
      | true =>
        rw [hv] at C
        have HK := Lib.hid (vals_step hx.out hok.out hv)
        clear hv hok
        go_wp2_with fail
        refine (C.out _).mono ?_
        rintro e w1 ⟨rfl, rfl⟩
        go_wp2
        go_roundw
        case rel => exact ⟨k + 1, by omega, by go_num, HK, by first | rfl | trivial⟩
        case measure => simp [intOf]; omega
      | false =>
        rw [hv] at C
        have HK := Lib.hid (vals_no hx.out hv)
        clear hv hok
        go_wp2_with fail
        refine (C.out _).mono ?_
        rintro e w1 ⟨rfl, rfl⟩
        go_wp2
        go_ret
        exact ⟨_, rfl, by rw [HK.out]; simp, rfl⟩
    · obtain rfl : k = n := by omega
      have HK := Lib.hid (vals_yes (xs := xs) (by rw [HL.out]; exact hok.out))
      go_wp2
      go_ret
      exact ⟨_, rfl, by rw [HK.out]; simp, rfl⟩
theorem containsBad (A : Option Addr) (n c : Nat) (xs : List Int) (w : World) (hr : SlI w A n xs) (hn : n ≤ 2097152) :
    Calls Try.prog 103 #[.slice A n c, .func (.func 104) #[] #[]] w fun e w' => e = .returned (.bool (!valsB xs)) ∧ w = w' := by
  have C := Lib.hid (indexBad A n c xs w hr hn)
  clear hr
  generalize valsB xs = b at C ⊢
  go_enter Try.func103, Try.ntmps103
  go_wp2_with fail
  refine C.out.mono ?_
  rintro e w1 ⟨z, rfl, hz, rfl⟩
  go_wp2
  go_ret
  exact ⟨rfl, rfl⟩
theorem areValues_any (A : Option Addr) (n c : Nat) (xs : List Int) (cnt : Int) (w : World) (hr : SlI w A n xs) (hn : n ≤ 2097152) :
    Calls Try.prog 56 #[.slice A n c, .int .i64 cnt] w fun e w' => e = .returned (.bool (decide ((n : Int) = cnt) && valsB xs)) ∧ w = w' := by
  have C := Lib.hid (containsBad A n c xs w hr hn)
  clear hr
  generalize valsB xs = b at C ⊢
  by_cases h : (n : Int) = cnt
  · subst h
    have hd : (decide ((n : Int) = (n : Int)) && b) = b := by simp
    rw [hd]
    clear hd
    have hb : (!!b) = b := by simp
    go_enter Try.func56, Try.ntmps56
    go_wp2_with fail
    refine C.out.mono ?_
    rintro e w1 ⟨rfl, rfl⟩
    go_wp2
    go_ret
    exact ⟨g_bool (by simp), rfl⟩
  · have hd : (decide ((n : Int) = cnt) && b) = false := by simp [h]
    rw [hd]
    clear hd C
    have hb : (decide ((n : Int) = cnt)) = false := by simp [h]
    go_enter Try.func56, Try.ntmps56
    go_wp2
    go_ret
    exact ⟨rfl, rfl⟩
end Go.Proofs.Ytpgnappddddlpaa
namespace Go.Proofs.Ytpgnappddddlpaa
open Go.RowKit
set_option linter.unusedVariables false

theorem valsS_no {xs : List Int} {k : Nat} {x : Int} (h : xs[k]? = some x) (hx : ¬ (0 ≤ x ∧ x ≤ 1099511627776)) : valsB xs = false := by
  unfold valsB
  rw [List.all_eq_false]
  exact ⟨x, List.mem_of_getElem? h, by unfold valB; simpa using hx⟩
theorem valsS_step {xs : List Int} {k : Nat} {x : Int} (h : xs[k]? = some x) (ha : ∀ y ∈ xs.take k, valB y = true) (hx : 0 ≤ x ∧ x ≤ 1099511627776) : ∀ y ∈ xs.take (k + 1), valB y = true := by
  rw [g_take xs k x h]
  intro y hy
  rcases List.mem_append.1 hy with hy | hy
  · exact ha y hy
  · rw [List.mem_singleton.1 hy]; unfold valB; simpa using hx
theorem valsS_yes {xs : List Int} (ha : ∀ y ∈ xs.take xs.length, valB y = true) : valsB xs = true := by
  rw [List.take_length] at ha
  unfold valsB
  rw [List.all_eq_true]
  exact ha
set_option maxRecDepth 10000 in
set_option maxHeartbeats 1000000 in
theorem specVals (A : Option Addr) (n c : Nat) (xs : List Int) (w : World) (hr : SlI w A n xs) (hn : n ≤ 2097152) :
    Calls Try.prog 82 #[.slice A n c] w fun e w' => e = .returned (.bool (valsB xs)) ∧ w = w' := by
  have HR := Lib.hid hr
  have HL := Lib.hid hr.len
  clear hr
  go_enter Try.func82, Try.ntmps82
  go_wp2
  go_loopw [7] (fun i wr => ∃ k : Nat, k ≤ n ∧ i = .int .i64 (k : Int) ∧ Hid (∀ y ∈ xs.take k, valB y = true) ∧ wr = w) (fun i _ => n - (intOf i).toNat)
  case atStart => exact ⟨0, Nat.zero_le _, rfl, Lib.hid (by simp), by first | rfl | trivial⟩
  case round =>
    obtain ⟨k, hk, rfl, hok, rfl⟩ := hrel
    by_cases hlt : k < n
    · obtain ⟨b, off, x, rfl, hbw, hx, c0⟩ := HR.out.at_ hlt
      by_cases h0 : 0 ≤ x
      · by_cases h1 : x ≤ 1099511627776
        · have HK := Lib.hid (valsS_step hx.out hok.out ⟨h0, h1⟩)
          clear hok
          go_wp2
          go_roundw
          case rel => exact ⟨k + 1, by omega, by go_num, HK, by first | rfl | trivial⟩
          case measure => simp [intOf]; omega
        · have HK := Lib.hid (valsS_no hx.out (fun h => h1 h.2))
          have h2 : 1099511627776 < x := by omega
          clear hok
          go_wp2
          go_ret
          exact ⟨by rw [HK.out]; rfl, rfl⟩
      · have HK := Lib.hid (valsS_no hx.out (fun h => h0 h.1))
        have h2 : x < 0 := by omega
        clear hok
        go_wp2
        go_ret
        exact ⟨by rw [HK.out]; rfl, rfl⟩
    · obtain rfl : k = n := by omega
      have HK := Lib.hid (valsS_yes (xs := xs) (by rw [HL.out]; exact hok.out))
      go_wp2
      go_ret
      exact ⟨by rw [HK.out]; rfl, rfl⟩
end Go.Proofs.Ytpgnappddddlpaa
