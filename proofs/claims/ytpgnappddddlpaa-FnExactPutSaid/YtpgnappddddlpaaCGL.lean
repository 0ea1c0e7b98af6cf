/- The program's test of a location. Condition: at most 2^20 shards and edges of a shard. // One edge of one shard of the call's own is written (plain lemmas over the model; no condition). // The program's writing back into a farm of the call's own. Condition: at most 2^20 shards, edges of a shard and locations. // What a writing back leaves of the blocks beside (plain lemmas over the model; no condition). -/
import Derived.Test.YtpgnappddddlpaaCGK
import Derived.Test.YtpgnappddddlpaaCGC
import Derived.Test.YtpgnappddddlpaaCGD
import Derived.Test.YtpgnappddddlpaaCGG
import Derived.Deep.RegionHeld3
import Derived.Deep.RegionWith
import Derived.Deep.DeepCutAuto
namespace Go.Proofs.Ytpgnappddddlpaa
open Go.RowKit
set_option linter.unusedVariables false

theorem sdL_get3 {bs : List HE} {k : Nat} {e : HE} (h : bs[k]? = some e) : (sdL bs)[k]? = some (e.lo, e.hi, e.es) := by
  unfold sdL
  rw [List.getElem?_map, h]
  rfl
theorem fit_neg {l : List SD} {x : LE} (h : x.s < 0) : fitB l x = false := by
  unfold fitB
  rw [decide_eq_false (by omega), Bool.false_and]
theorem fit_big {l : List SD} {x : LE} (h : (l.length : Int) ≤ x.s) : fitB l x = false := by
  unfold fitB
  rw [List.getElem?_eq_none (by omega)]
  simp
theorem fit_val {l : List SD} {x : LE} (h : valB x.e.v = false) : fitB l x = false := by
  unfold fitB
  rw [h]
  simp
theorem fit_pneg {l : List SD} {x : LE} (h : x.p < 0) : fitB l x = false := by
  unfold fitB fitE
  cases hs : l[x.s.toNat]? with
  | none => simp
  | some s => simp; omega
theorem fit_pbig {l : List SD} {x : LE} {k : Nat} {s : SD} (hk : x.s = (k : Int)) (hs : l[k]? = some s) (h : (s.2.2.length : Int) ≤ x.p) : fitB l x = false := by
  unfold fitB fitE
  rw [hk, Int.toNat_natCast, hs]
  simp only
  rw [List.getElem?_eq_none (by omega)]
  simp
theorem fit_at {l : List SD} {x : LE} {k j : Nat} {s : SD} {e : KE} (hk : x.s = (k : Int)) (hs : l[k]? = some s) (hj : x.p = (j : Int)) (he : s.2.2[j]? = some e) (hv : valB x.e.v = true) : fitB l x = sameE e x.e := by
  unfold fitB fitE
  rw [hk, Int.toNat_natCast, hs, hv]
  simp only
  rw [hj, Int.toNat_natCast, he]
  simp
set_option maxRecDepth 20000 in
set_option maxHeartbeats 4000000 in
theorem implFits (N : Int) (A : Option Addr) (n c : Nat) (B : Option Addr) (m d : Nat) (bs : List HE) (x : LE) (w : World) (hB : SlH w B m bs) (hm : m ≤ 1048576) (hs : ∀ e ∈ bs, e.n ≤ 1048576) :
    Calls Try.prog 113 #[.agg #[.int .i64 N, .slice A n c, .slice B m d], .agg #[.int .i64 x.s, .int .i64 x.p, .int .i64 x.e.f, .int .i64 x.e.t, .int .i64 x.e.w, .int .i64 x.e.i, .int .i64 x.e.v]] w (GTell w (fitB (sdL bs) x)) := by
  have C := Lib.hid (fun W => implIsValue x.e.v W)
  have H0 := Lib.hid (below_a2 w (.cells #[.int .i64 N, .slice A n c, .slice B m d] 26) (.cells #[.int .i64 x.s, .int .i64 x.p, .int .i64 x.e.f, .int .i64 x.e.t, .int .i64 x.e.w, .int .i64 x.e.i, .int .i64 x.e.v] 42))
  have HB := Lib.hid (hB.below H0.out)
  have HL := Lib.hid hB.len
  have HS := Lib.hid hs
  clear hB hs
  by_cases h1 : x.s < 0
  · have HF := Lib.hid (fit_neg (l := sdL bs) h1)
    go_enter Try.func113, Try.ntmps113
    go_wp2
    go_ret
    rw [HF.out]
    exact ⟨rfl, H0.out⟩
  · by_cases h2 : (m : Int) ≤ x.s
    · have HF := Lib.hid (fit_big (l := sdL bs) (x := x) (by rw [sdL_len, HL.out]; exact h2))
      go_enter Try.func113, Try.ntmps113
      go_wp2
      go_ret
      rw [HF.out]
      exact ⟨rfl, H0.out⟩
    · have h1' : 0 ≤ x.s := by omega
      have h2' : x.s < (m : Int) := by omega
      cases hv : valB x.e.v with
      | false =>
        rw [hv] at C
        have HF := Lib.hid (fit_val (l := sdL bs) hv)
        clear hv
        go_enter Try.func113, Try.ntmps113
        go_wp2_with fail
        refine (C.out _).mono ?_
        rintro e9 w9 ⟨rfl, rfl⟩
        go_wp2
        go_ret
        rw [HF.out]
        exact ⟨rfl, H0.out⟩
      | true =>
        rw [hv] at C
        obtain ⟨k, hk⟩ : ∃ k : Nat, x.s = (k : Int) := ⟨x.s.toNat, by omega⟩
        have hkm : k < m := by omega
        obtain ⟨b, off, e, rfl, hbw, he, hok, c0, c1, c2⟩ := HB.out.at_ hkm
        have hen : e.n ≤ 1048576 := HS.out e (List.mem_of_getElem? he.out)
        have HFP := Lib.hid (fun h => fit_pneg (l := sdL bs) (x := x) h)
        have HFB := Lib.hid (fun h => fit_pbig (x := x) hk (sdL_get3 he.out) h)
        have HFA := Lib.hid (fun j e2 hj h => fit_at (x := x) (j := j) (e := e2) hk (sdL_get3 he.out) hj h hv)
        have HEL := Lib.hid hok.out.rd.len
        have HRE := Lib.hid hok.out.rd
        have hkc : (0 : Int) ≤ (k : Int) ∧ (k : Int) < (m : Int) := by omega
        obtain ⟨xs, xp, xe⟩ := x
        simp only at hk
        subst hk
        clear hv h1 h2 h1' h2' hok he
        by_cases h3 : xp < 0
        · have HF := Lib.hid (HFP.out h3)
          go_enter Try.func113, Try.ntmps113
          go_wp2_with fail
          refine (C.out _).mono ?_
          rintro e9 w9 ⟨rfl, hsame⟩
          obtain rfl := hsame
          go_wp2
          go_ret
          rw [HF.out]
          exact ⟨rfl, H0.out⟩
        · by_cases h4 : (e.n : Int) ≤ xp
          · have HF := Lib.hid (HFB.out (by show (e.es.length : Int) ≤ xp; rw [HEL.out]; exact h4))
            go_enter Try.func113, Try.ntmps113
            go_wp2_with fail
            refine (C.out _).mono ?_
            rintro e9 w9 ⟨rfl, hsame⟩
            obtain rfl := hsame
            go_wp2
            go_ret
            rw [HF.out]
            exact ⟨rfl, H0.out⟩
          · obtain ⟨j, rfl⟩ : ∃ j : Nat, xp = (j : Int) := ⟨xp.toNat, by omega⟩
            have hjn : j < e.n := by omega
            obtain ⟨elo, ehi, eA, en, ec, ees⟩ := e
            obtain ⟨b', off', y, hAA, hbw', hy, d0, d1, d2, d3, d4⟩ := HRE.out.at_ hjn
            simp only at hAA hjn
            subst hAA
            have HF := Lib.hid (HFA.out j y rfl hy.out)
            simp only at HF
            have hjc : (0 : Int) ≤ (j : Int) ∧ (j : Int) < (en : Int) := by omega
            obtain ⟨f2, t2, w2', i2, v2⟩ := xe
            simp only at d0 d1 d2 d3 d4 HF C ⊢
            clear hy HFP HFB HFA h3 h4 HRE HEL
            have HX := Lib.hid (fun (W : World) (h : Below w.heap.size w W) => g_chain h (below_a1 W (.cells #[.int .i64 y.f, .int .i64 y.t, .int .i64 y.w, .int .i64 y.i, .int .i64 v2] 40)))
            by_cases q1 : y.f = f2
            · by_cases q2 : y.t = t2
              · by_cases q3 : y.w = w2'
                · by_cases q4 : y.i = i2
                  · have HQ : Hid (sameE y ⟨f2, t2, w2', i2, v2⟩ = true) := Lib.hid (by unfold sameE; exact decide_eq_true ⟨q1, q2, q3, q4⟩)
                    rw [HQ.out] at HF
                    go_enter Try.func113, Try.ntmps113
                    go_wp2_with fail
                    refine (C.out _).mono ?_
                    rintro e9 w9 ⟨rfl, hsame⟩
                    obtain rfl := hsame
                    go_wp2
                    go_ret
                    rw [HF.out]
                    exact ⟨rfl, g_chain H0.out (below_a1 _ _)⟩
                  · have HQ : Hid (sameE y ⟨f2, t2, w2', i2, v2⟩ = false) := Lib.hid (by unfold sameE; exact decide_eq_false (fun h => q4 (by first | exact h.1 | exact h.2.1 | exact h.2.2.1 | exact h.2.2.2)))
                    have qf : (y.i == i2) = false := by simpa using q4
                    rw [HQ.out] at HF
                    clear q4
                    go_enter Try.func113, Try.ntmps113
                    go_wp2_with fail
                    refine (C.out _).mono ?_
                    rintro e9 w9 ⟨rfl, hsame⟩
                    obtain rfl := hsame
                    go_wp2
                    go_ret
                    rw [HF.out]
                    exact ⟨by first | rfl | exact g_bool (by simp [qf]), g_chain H0.out (below_a1 _ _)⟩
                · have HQ : Hid (sameE y ⟨f2, t2, w2', i2, v2⟩ = false) := Lib.hid (by unfold sameE; exact decide_eq_false (fun h => q3 (by first | exact h.1 | exact h.2.1 | exact h.2.2.1 | exact h.2.2.2)))
                  have qf : (y.w == w2') = false := by simpa using q3
                  rw [HQ.out] at HF
                  clear q3
                  go_enter Try.func113, Try.ntmps113
                  go_wp2_with fail
                  refine (C.out _).mono ?_
                  rintro e9 w9 ⟨rfl, hsame⟩
                  obtain rfl := hsame
                  go_wp2
                  go_ret
                  rw [HF.out]
                  exact ⟨by first | rfl | exact g_bool (by simp [qf]), g_chain H0.out (below_a1 _ _)⟩
              · have HQ : Hid (sameE y ⟨f2, t2, w2', i2, v2⟩ = false) := Lib.hid (by unfold sameE; exact decide_eq_false (fun h => q2 (by first | exact h.1 | exact h.2.1 | exact h.2.2.1 | exact h.2.2.2)))
                have qf : (y.t == t2) = false := by simpa using q2
                rw [HQ.out] at HF
                clear q2
                go_enter Try.func113, Try.ntmps113
                go_wp2_with fail
                refine (C.out _).mono ?_
                rintro e9 w9 ⟨rfl, hsame⟩
                obtain rfl := hsame
                go_wp2
                go_ret
                rw [HF.out]
                exact ⟨by first | rfl | exact g_bool (by simp [qf]), g_chain H0.out (below_a1 _ _)⟩
            · have HQ : Hid (sameE y ⟨f2, t2, w2', i2, v2⟩ = false) := Lib.hid (by unfold sameE; exact decide_eq_false (fun h => q1 (by first | exact h.1 | exact h.2.1 | exact h.2.2.1 | exact h.2.2.2)))
              have qf : (y.f == f2) = false := by simpa using q1
              rw [HQ.out] at HF
              clear q1
              go_enter Try.func113, Try.ntmps113
              go_wp2_with fail
              refine (C.out _).mono ?_
              rintro e9 w9 ⟨rfl, hsame⟩
              obtain rfl := hsame
              go_wp2
              go_ret
              rw [HF.out]
              exact ⟨by first | rfl | exact g_bool (by simp [qf]), g_chain H0.out (below_a1 _ _)⟩
end Go.Proofs.Ytpgnappddddlpaa
namespace Go.Proofs.Ytpgnappddddlpaa
open Go.RowKit
set_option linter.unusedVariables false

theorem split_at {α : Type} {l : List α} {k : Nat} {x : α} (h : l[k]? = some x) : l = l.take k ++ x :: l.drop (k + 1) ∧ (l.take k).length = k := by
  have hk := (List.getElem?_eq_some_iff.1 h).1
  refine ⟨?_, by rw [List.length_take]; omega⟩
  conv => lhs; rw [← List.take_append_drop k l]
  rw [g_drop l k x h]
theorem set_split {α : Type} {l : List α} {k : Nat} {x y : α} (h : l[k]? = some x) : l.set k y = l.take k ++ y :: l.drop (k + 1) := by
  obtain ⟨h1, h2⟩ := split_at h
  conv => lhs; rw [h1]
  exact g_set _ _ _ _ _ h2
theorem putE_sd {bs : List HE} {k j : Nat} {d d' : HE} {x : LE} (hd : bs[k]? = some d) (hk : x.s = (k : Int)) (hj : x.p = (j : Int)) (h1 : d'.lo = d.lo) (h2 : d'.hi = d.hi) (h3 : d'.es = d.es.set j x.e) : (bs.take k ++ d' :: bs.drop (k + 1)).map HE.sd = putE (bs.map HE.sd) x := by
  have hs : (bs.map HE.sd)[k]? = some d.sd := by rw [List.getElem?_map, hd]; rfl
  unfold putE
  rw [hk, hj, Int.toNat_natCast, Int.toNat_natCast, hs]
  simp only
  rw [set_split hs, List.map_append, List.map_cons, List.map_take, List.map_drop]
  have : d'.sd = (d.sd.1, d.sd.2.1, d.sd.2.2.set j x.e) := by unfold HE.sd; rw [h1, h2, h3]
  rw [this]
section
variable {w w' : World} {lo n c k : Nat} {A : Option Addr} {bs : List HE} {d d' : HE} {g : Nat}
/-- The row of shards stays, one of the rows of edges is written in its own block. -/
theorem OwnH.putRow (h : OwnH w lo A n c bs) (hd : bs[k]? = some d) (hA : d.A = some ⟨g, 0, none⟩) (hg : w.grownBy w' (some g)) (hv : d'.cells = d.cells) (ho : w'.ownsRow lo 40 5 d.v d.n (d'.es.flatMap KE.cells)) (hl : d'.es.length = d.n) : OwnH w' lo A n c (bs.take k ++ d' :: bs.drop (k + 1)) := by
  obtain ⟨e1, e2⟩ := split_at hd
  have hdm : d ∈ bs := List.mem_of_getElem? hd
  have hb : d.v.ownBlock = some g := by unfold HE.v; rw [hA]; rfl
  have hc : d'.A = d.A ∧ d'.n = d.n ∧ d'.c = d.c := by
    unfold HE.cells at hv
    simp at hv
    exact hv.2.2
  have hv2 : d'.v = d.v := by unfold HE.v; rw [hc.1, hc.2.1, hc.2.2]
  have hrow : w'.ownsRow lo 85 3 (.slice A n c) n (bs.flatMap HE.cells) := h.row.kept hg ((own_types h.row (h.dat.own d hdm) (by decide)).imp id fun h2 e => h2 (hb.trans e.symm))
  have hfl : (bs.take k ++ d' :: bs.drop (k + 1)).flatMap HE.cells = bs.flatMap HE.cells := by
    conv => rhs; rw [e1]
    rw [List.flatMap_append, List.flatMap_append, List.flatMap_cons, List.flatMap_cons, hv]
  refine ⟨by rw [hfl]; exact hrow, ?_, ?_⟩
  · rw [List.length_append, e2, List.length_cons, List.length_drop]
    have := h.len
    have := (List.getElem?_eq_some_iff.1 hd).1
    omega
  · have h2 := h.dat
    rw [e1] at h2
    refine OwnHL.turn h2 (by rw [hb]; exact hg) (by rw [hv2]) (by rw [hv2, hc.2.1]; exact ho) (by rw [hc.2.1]; exact hl)
theorem OwnH.at_k (h : OwnH w lo A n c bs) (hk : k < n) : ∃ (g : Nat) (d : HE), A = some ⟨g, 0, none⟩ ∧ Hid (bs[k]? = some d) ∧ w.cell? ⟨g, k * 3, none⟩ = some (.int .i64 d.lo) ∧ w.cell? ⟨g, k * 3 + 1, none⟩ = some (.int .i64 d.hi) ∧ w.cell? ⟨g, k * 3 + 2, none⟩ = some (.slice d.A d.n d.c) := by
  obtain ⟨g, hg⟩ := g_own_at h.row (by omega)
  have hl : k < bs.length := by have := h.len; omega
  have he : bs[k]? = some bs[k] := List.getElem?_eq_getElem hl
  subst hg
  have hq := fun i (hi : i < 3) => (h.row.cellAt (k * 3 + i) (by omega)).trans (flat_get HE.cells 3 HE.cells_len _ k i _ he hi)
  exact ⟨g, bs[k], rfl, he, hq 0 (by omega), hq 1 (by omega), hq 2 (by omega)⟩
/-- The value of one edge is written. -/
theorem OwnH.putVal {j : Nat} {y e : KE} (h : OwnH w lo A n c bs) (hd : bs[k]? = some d) (hA : d.A = some ⟨g, 0, none⟩) (hy : d.es[j]? = some y) (h1 : y.f = e.f) (h2 : y.t = e.t) (h3 : y.w = e.w) (h4 : y.i = e.i) :
    OwnH (w.setCell ⟨g, j * 5 + 4, none⟩ (.int .i64 e.v)) lo A n c (bs.take k ++ (⟨d.lo, d.hi, d.A, d.n, d.c, d.es.set j e⟩ : HE) :: bs.drop (k + 1)) ∧ w.grownBy (w.setCell ⟨g, j * 5 + 4, none⟩ (.int .i64 e.v)) (some g) := by
  have hdm : d ∈ bs := List.mem_of_getElem? hd
  have hrow := h.dat.own d hdm
  have hst := hrow
  unfold HE.v at hst
  rw [hA] at hst
  have hs := hst.stored (j * 5 + 4) (.int .i64 e.v)
  have he : e = ⟨y.f, y.t, y.w, y.i, e.v⟩ := by rw [h1, h2, h3, h4]
  have e1 := flat_set KE.cells 5 KE.cells_len d.es j 4 y e (.int .i64 e.v) hy (by omega) (by rw [he]; rfl)
  have e2 : d.es.take j ++ e :: d.es.drop (j + 1) = d.es.set j e := (set_split hy).symm
  rw [e1] at hs
  refine ⟨h.putRow (d' := ⟨d.lo, d.hi, d.A, d.n, d.c, d.es.set j e⟩) hd hA hs.2 rfl ?_ (by rw [List.length_set]; exact h.dat.len d hdm), hs.2⟩
  unfold HE.v
  rw [hA]
  exact hs.1
/-- One edge is written, whole. -/
theorem OwnH.putEdge {j : Nat} {y e : KE} (h : OwnH w lo A n c bs) (hd : bs[k]? = some d) (hA : d.A = some ⟨g, 0, none⟩) (hy : d.es[j]? = some y) :
    OwnH (lay5 w g (j * 5) e) lo A n c (bs.take k ++ (⟨d.lo, d.hi, d.A, d.n, d.c, d.es.set j e⟩ : HE) :: bs.drop (k + 1)) ∧ w.grownBy (lay5 w g (j * 5) e) (some g) := by
  have hdm : d ∈ bs := List.mem_of_getElem? hd
  have hrow := h.dat.own d hdm
  have hst := hrow
  unfold HE.v at hst
  rw [hA] at hst
  obtain ⟨s1, s2⟩ := split_at hy
  rw [s1] at hst
  have hs := k_lay (e := e) hst s2
  rw [← set_split hy] at hs
  refine ⟨h.putRow (d' := ⟨d.lo, d.hi, d.A, d.n, d.c, d.es.set j e⟩) hd hA hs.2 rfl ?_ (by rw [List.length_set]; exact h.dat.len d hdm), hs.2⟩
  unfold HE.v
  rw [hA]
  exact hs.1
end
end Go.Proofs.Ytpgnappddddlpaa
namespace Go.Proofs.Ytpgnappddddlpaa
open Go.RowKit
set_option linter.unusedVariables false

theorem held_nameP {P : Program} {md : Region.Mode} {ops : Array Oper} {Q : Exit → Act → World → Prop} {S : World → Prop} {fuel : Nat} {listed : Array Bool} {a : Act} {w : World} (hS : S w) (h : S w → wpAnyH P md ops Q S fuel listed a w) : wpAnyH P md ops Q S fuel listed a w := h hS

theorem fits_at {bs : List HE} {x : LE} (h : fitB (bs.map HE.sd) x = true) : ∃ (q r : Nat) (d : HE) (y : KE), x.s = (q : Int) ∧ x.p = (r : Int) ∧ bs[q]? = some d ∧ d.es[r]? = some y ∧ y.f = x.e.f ∧ y.t = x.e.t ∧ y.w = x.e.w ∧ y.i = x.e.i := by
  obtain ⟨h1, h2, h3, s, e, h4, h5, h6, h7, h8, h9⟩ := fitB_iff h
  rw [List.getElem?_map] at h4
  cases hd : bs[x.s.toNat]? with
  | none => rw [hd] at h4; cases h4
  | some d =>
    rw [hd] at h4
    injection h4 with h4
    subst h4
    exact ⟨x.s.toNat, x.p.toNat, d, e, by omega, by omega, hd, h5, h6, h7, h8, h9⟩
/-- What writing back leaves. -/
def FPutRes (w : World) (lo : Nat) (B : Option Addr) (m d : Nat) (bs : List HE) (us : List LE) (e : Ending) (w' : World) : Prop :=
  e = .returned (.bool (us.all (fitB (bs.map HE.sd)))) ∧ (us.all (fitB (bs.map HE.sd)) = true → ∃ bs', OwnH w' lo B m d bs' ∧ bs'.map HE.sd = putL (bs.map HE.sd) us ∧ ∀ g, blkH B m d bs' g → blkH B m d bs g) ∧ OnlyB (blkH B m d bs) w w'
theorem blk_put {B : Option Addr} {m d q : Nat} {bs : List HE} {x y : HE} (h : bs[q]? = some x) (hv : y.v = x.v) : ∀ g, blkH B m d (bs.take q ++ y :: bs.drop (q + 1)) g → blkH B m d bs g := fun g hg => by
  rcases hg with hg | ⟨e, he, hg⟩
  · exact .inl hg
  · rcases List.mem_append.1 he with he | he
    · exact .inr ⟨e, List.mem_of_mem_take he, hg⟩
    · rcases List.mem_cons.1 he with rfl | he
      · exact .inr ⟨x, List.mem_of_getElem? h, by rw [← hv]; exact hg⟩
      · exact .inr ⟨e, List.mem_of_mem_drop he, hg⟩
theorem small_put {M q : Nat} {bs : List HE} {x y : HE} (h : bs[q]? = some x) (hn : y.n = x.n) (hs : ∀ e ∈ bs, e.n ≤ M) : ∀ e ∈ bs.take q ++ y :: bs.drop (q + 1), e.n ≤ M := fun e he => by
  rcases List.mem_append.1 he with he | he
  · exact hs e (List.mem_of_mem_take he)
  · rcases List.mem_cons.1 he with rfl | he
    · rw [hn]; exact hs x (List.mem_of_getElem? h)
    · exact hs e (List.mem_of_mem_drop he)
theorem fits_no {l : List SD} {us : List LE} {j : Nat} {x : LE} (h : us[j]? = some x) (hx : fitB l x = false) : us.all (fitB l) = false := by
  rw [List.all_eq_false]
  exact ⟨x, List.mem_of_getElem? h, by simp [hx]⟩
theorem fits_step {l : List SD} {us : List LE} {j : Nat} {x : LE} (h : us[j]? = some x) (ha : ∀ y ∈ us.take j, fitB l y = true) (hx : fitB l x = true) : ∀ y ∈ us.take (j + 1), fitB l y = true := by
  rw [g_take us j x h]
  intro y hy
  rcases List.mem_append.1 hy with hy | hy
  · exact ha y hy
  · rw [List.mem_singleton.1 hy]; exact hx
theorem OwnH.drew {w : World} {lo n c : Nat} {A : Option Addr} {bs : List HE} (h : OwnH w lo A n c bs) : OwnH w.drew lo A n c bs := h.below (Below.refl _ _).drew
theorem OnlyB.drew {S : Nat → Prop} {w w' : World} (h : OnlyB S w w') : OnlyB S w w'.drew := h.below (Below.refl _ _).drew
set_option maxRecDepth 20000 in
set_option maxHeartbeats 8000000 in
theorem implPut0 (N : Int) (A : Option Addr) (n c : Nat) (B : Option Addr) (m d lo : Nat) (bs : List HE) (U : Option Addr) (k cU : Nat) (us : List LE) (w0 w : World) (hU : SlL w0 U k us) (hk : k ≤ 1048576) (hw : Below w0.heap.size w0 w) (ho : OwnH w lo B m d bs) (hlo : w0.heap.size ≤ lo) (hm : m ≤ 1048576) (hs : ∀ e ∈ bs, e.n ≤ 1048576) :
    Calls Try.prog 62 #[.agg #[.int .i64 N, .slice A n c, .slice B m d], .slice U k cU] w (FPutRes w lo B m d bs us) := by
  have HU := Lib.hid hU
  have HUL := Lib.hid hU.len
  have HS := Lib.hid hs
  have HBK : Hid (∀ g, blkH B m d bs g → lo ≤ g ∧ g < w.heap.size) := Lib.hid (fun g hg => ho.blk hg)
  have HA := Lib.hid (below_a1 w (.cells #[.int .i64 N, .slice A n c, .slice B m d] 26))
  have O1 := Lib.hid (ho.below HA.out)
  have B1 := Lib.hid (Blk.new w #[.int .i64 N, .slice A n c, .slice B m d] 26)
  have Y1 : Hid (OnlyB (blkH B m d bs) w (w.alloc (.cells #[.int .i64 N, .slice A n c, .slice B m d] 26))) := Lib.hid ((OnlyB.refl _ w).below HA.out)
  have HW := Lib.hid hw
  have hwz : w0.heap.size ≤ w.heap.size := hw.size
  have HWB : Hid (∀ W, OnlyB (blkH B m d bs) w W → Below w0.heap.size w0 W) := Lib.hid (fun W h => hw.trans (h.toBelow hw.size (fun g hg => by have h1 := HBK.out g hg; omega)))
  clear hU hs ho hw
  go_enter Try.func62, Try.ntmps62
  go_wp2
  go_loopw [9] (fun i wr => ∃ (j : Nat) (cur : List HE), j ≤ k ∧ i = .int .i64 (j : Int) ∧ Hid (OwnH wr lo B m d cur) ∧ Hid (cur.map HE.sd = putL (bs.map HE.sd) (us.take j)) ∧ Hid (∀ y ∈ us.take j, fitB (bs.map HE.sd) y = true) ∧ Hid (∀ g, blkH B m d cur g → blkH B m d bs g) ∧ Hid (∀ e ∈ cur, e.n ≤ 1048576) ∧ Hid (OnlyB (blkH B m d bs) w wr) ∧ Hid (Blk wr w.heap.size #[.int .i64 N, .slice A n c, .slice B m d] 26)) (fun i _ => k - (intOf i).toNat)
  case atStart => exact ⟨0, bs, Nat.zero_le _, rfl, O1, Lib.hid rfl, Lib.hid (by simp), Lib.hid (fun g h => h), HS, Y1, B1⟩
  case round =>
    clear O1 Y1 B1 HA
    obtain ⟨j, cur, hj, rfl, ho, hsd, hfit, hblk, hsm, honly, hbx⟩ := hrel
    by_cases hlt : j < k
    · obtain ⟨b, off, x, rfl, hbw, hx, c0, c1, c2, c3, c4, c5, c6⟩ := HU.out.at_ hlt
      have HBL := Lib.hid (HWB.out wr honly.out)
      have c0 := (HBL.out.cell (p := ⟨b, off + j * 7, none⟩) hbw).trans c0
      have c1 := (HBL.out.cell (p := ⟨b, off + j * 7 + 1, none⟩) hbw).trans c1
      have c2 := (HBL.out.cell (p := ⟨b, off + j * 7 + 2, none⟩) hbw).trans c2
      have c3 := (HBL.out.cell (p := ⟨b, off + j * 7 + 3, none⟩) hbw).trans c3
      have c4 := (HBL.out.cell (p := ⟨b, off + j * 7 + 4, none⟩) hbw).trans c4
      have c5 := (HBL.out.cell (p := ⟨b, off + j * 7 + 5, none⟩) hbw).trans c5
      have c6 := (HBL.out.cell (p := ⟨b, off + j * 7 + 6, none⟩) hbw).trans c6
      have HX := Lib.hid (below_a1 wr (.cells #[.int .i64 x.s, .int .i64 x.p, .int .i64 x.e.f, .int .i64 x.e.t, .int .i64 x.e.w, .int .i64 x.e.i, .int .i64 x.e.v] 42))
      have O2 := Lib.hid (ho.out.below HX.out)
      have Y2 := Lib.hid (honly.out.below HX.out)
      have B2 := Lib.hid (hbx.out.below HX.out)
      have X2 := Lib.hid (Blk.new wr #[.int .i64 x.s, .int .i64 x.p, .int .i64 x.e.f, .int .i64 x.e.t, .int .i64 x.e.w, .int .i64 x.e.i, .int .i64 x.e.v] 42)
      have C := Lib.hid (implFits N A n c B m d cur x _ O2.out.sl hm hsm.out)
      have HFE : Hid (fitB (sdL cur) x = fitB (bs.map HE.sd) x) := Lib.hid (by show fitB (cur.map HE.sd) x = _; rw [hsd.out]; exact fit_putL hfit.out)
      rw [HFE.out] at C
      have y0 := hbx.out.cell (i := 0) rfl
      have y1 := hbx.out.cell (i := 1) rfl
      have y2 := hbx.out.cell (i := 2) rfl
      have hlw : w.heap.size < wr.heap.size := hbx.out.lt
      clear ho honly hbx HX HBL
      cases hv : fitB (bs.map HE.sd) x with
      | false =>
        rw [hv] at C
        have HNO := Lib.hid (fits_no hx.out hv)
        clear hv
        go_wp2_with fail
        refine C.out.mono ?_
        rintro e1 w2 ⟨rfl, hb⟩
        have Y3 := Lib.hid (Y2.out.below hb)
        clear hb
        go_wp2
        go_ret
        unfold FPutRes
        rw [HNO.out]
        exact ⟨rfl, (fun h => by cases h), Y3.out⟩
      | true =>
        rw [hv] at C
        have HK := Lib.hid (fits_step hx.out hfit.out hv)
        have hv2 : fitB (cur.map HE.sd) x = true := by have h1 := HFE.out; rw [hv] at h1; exact h1
        obtain ⟨q, r, dd, y, hq, hr, hdd, hy, h1, h2, h3, h4⟩ := fits_at hv2
        have HDD := Lib.hid hdd
        have HYY := Lib.hid hy
        have HSD : Hid ((cur.take q ++ (⟨dd.lo, dd.hi, dd.A, dd.n, dd.c, dd.es.set r x.e⟩ : HE) :: cur.drop (q + 1)).map HE.sd = putL (bs.map HE.sd) (us.take (j + 1))) := Lib.hid (by rw [putE_sd (d' := ⟨dd.lo, dd.hi, dd.A, dd.n, dd.c, dd.es.set r x.e⟩) hdd hq hr rfl rfl rfl, hsd.out, ← putL_step hx.out])
        have HBK2 := Lib.hid (fun g hg => hblk.out g (blk_put (y := ⟨dd.lo, dd.hi, dd.A, dd.n, dd.c, dd.es.set r x.e⟩) hdd rfl g hg))
        have HSM2 := Lib.hid (small_put (y := ⟨dd.lo, dd.hi, dd.A, dd.n, dd.c, dd.es.set r x.e⟩) hdd rfl hsm.out)
        have HE1 := Lib.hid h1
        have HE2 := Lib.hid h2
        have HE3 := Lib.hid h3
        have HE4 := Lib.hid h4
        have HQ := Lib.hid hq
        have HR := Lib.hid hr
        clear hq hr hv hv2 HFE hsd hfit hdd hy h1 h2 h3 h4
        go_wp2_with fail
        refine C.out.mono ?_
        rintro e1 w2 ⟨rfl, hb⟩
        have O3 := Lib.hid (O2.out.below hb)
        have Y3 := Lib.hid (Y2.out.below hb)
        have B3 := Lib.hid (B2.out.below hb)
        have X3 := Lib.hid (X2.out.below hb)
        clear hb O2 Y2 B2 X2 C y0 y1 y2 c0 c1 c2 c3 c4 c5 c6
        go_upto_region 6 with fail
        refine wp_region_any (by kernel_rfl) ?_
        change wpAny _ _ _ _ _ _ _ (World.drew _)
        have O5 := Lib.hid O3.out.drew
        have Y5 := Lib.hid Y3.out.drew
        have B5 : Hid (Blk (World.drew w2) w.heap.size #[.int .i64 N, .slice A n c, .slice B m d] 26) := Lib.hid B3.out.drew
        have X5 : Hid (Blk (World.drew w2) wr.heap.size #[.int .i64 x.s, .int .i64 x.p, .int .i64 x.e.f, .int .i64 x.e.t, .int .i64 x.e.w, .int .i64 x.e.i, .int .i64 x.e.v] 42) := Lib.hid X3.out.drew
        generalize hDD : World.drew w2 = W5 at O5 Y5 B5 X5 ⊢
        clear hDD O3 Y3 B3 X3
        have hdl : dd.es.length = dd.n := O5.out.dat.len dd (List.mem_of_getElem? HDD.out)
        have hrn : r < dd.n := by have := (List.getElem?_eq_some_iff.1 HYY.out).1; omega
        have hqm : q < m := by have h5 := (List.getElem?_eq_some_iff.1 HDD.out).1; have h6 := O5.out.len; omega
        obtain ⟨g, d2, rfl, hd2, s0, s1, s2⟩ := O5.out.at_k hqm
        obtain rfl : d2 = dd := by have h5 := hd2.out; rw [HDD.out] at h5; injection h5 with h5; exact h5.symm
        obtain ⟨g2, hg2⟩ := g_own_at (O5.out.dat.own d2 (List.mem_of_getElem? HDD.out)) (by omega)
        have hown := O5.out.dat.own d2 (List.mem_of_getElem? HDD.out)
        unfold HE.v at hown
        rw [hg2] at hown s2
        have e4 : W5.cell? ⟨g2, r * 5 + 4, none⟩ = some (.int .i64 y.v) := (hown.cellAt (r * 5 + 4) (by omega)).trans (flat_get KE.cells 5 KE.cells_len _ r 4 y HYY.out (by omega))
        have ef := hown.frozenAt (r * 5 + 4)
        obtain ⟨P1, P2⟩ := O5.out.putVal (e := x.e) HDD.out hg2 HYY.out HE1.out HE2.out HE3.out HE4.out
        have hg2b : blkH (some ⟨g, 0, none⟩) m d cur g2 := .inr ⟨d2, List.mem_of_getElem? HDD.out, by unfold HE.v; rw [hg2]; rfl⟩
        have HPU := Lib.hid P1
        have HPY : Hid (OnlyB (blkH (some ⟨g, 0, none⟩) m d bs) w (W5.setCell ⟨g2, r * 5 + 4, none⟩ (.int .i64 x.e.v))) := Lib.hid (Y5.out.grown P2 (fun i hi => by injection hi with hi; subst hi; exact hblk.out _ hg2b))
        have HPB : Hid (Blk (W5.setCell ⟨g2, r * 5 + 4, none⟩ (.int .i64 x.e.v)) w.heap.size #[.int .i64 N, .slice A n c, .slice (some ⟨g, 0, none⟩) m d] 26) := Lib.hid (B5.out.grown P2 (fun e => by injection e with e; have h5 := (HBK.out _ (hblk.out _ hg2b)).2; omega))
        have x0 := B5.out.cell (i := 0) rfl
        have x1 := B5.out.cell (i := 1) rfl
        have x2 := B5.out.cell (i := 2) rfl
        have z0 := X5.out.cell (i := 0) rfl
        have z1 := X5.out.cell (i := 1) rfl
        have z6 := X5.out.cell (i := 6) rfl
        have hdn : d2.n ≤ 1048576 := hsm.out d2 (List.mem_of_getElem? HDD.out)
        have z2 := X5.out.cell (i := 2) rfl
        have z3 := X5.out.cell (i := 3) rfl
        have z4 := X5.out.cell (i := 4) rfl
        have z5 := X5.out.cell (i := 5) rfl
        have hqc : (0 : Int) ≤ (q : Int) ∧ (q : Int) < (m : Int) := by omega
        have hrc : (0 : Int) ≤ (r : Int) ∧ (r : Int) < (d2.n : Int) := by omega
        rw [HQ.out] at z0
        rw [HR.out] at z1
        rw [HQ.out, HR.out] at X5
        have hxw : wr.heap.size ≠ g2 := fun e => by
          have h5 := OwnH.apartT (e := 3) O5.out (World.ownsRow_nil W5 lo 3 1) (by decide) (by decide)
          exact own_kind (O5.out.dat.own d2 (List.mem_of_getElem? HDD.out)) X5.out (by decide) (by unfold HE.v; rw [hg2, e]; rfl)
        have hgg : g ≠ g2 := fun e => by
          rcases own_types O5.out.row (O5.out.dat.own d2 (List.mem_of_getElem? HDD.out)) (by decide) with h5 | h5
          · cases h5
          · exact h5 (by unfold HE.v; rw [hg2, e]; rfl)
        clear P1 P2 hown hg2b HQ HR hdl hd2
        refine wpAny_of_held (S := fun W => W.cell? ⟨w.heap.size, 0, none⟩ = some (.int .i64 N) ∧ W.cell? ⟨w.heap.size, 1, none⟩ = some (.slice A n c) ∧ W.cell? ⟨w.heap.size, 2, none⟩ = some (.slice (some ⟨g, 0, none⟩) m d) ∧ W.cell? ⟨wr.heap.size, 0, none⟩ = some (.int .i64 (q : Int)) ∧ W.cell? ⟨wr.heap.size, 1, none⟩ = some (.int .i64 (r : Int)) ∧ W.cell? ⟨wr.heap.size, 2, none⟩ = some (.int .i64 x.e.f) ∧ W.cell? ⟨wr.heap.size, 3, none⟩ = some (.int .i64 x.e.t) ∧ W.cell? ⟨wr.heap.size, 4, none⟩ = some (.int .i64 x.e.w) ∧ W.cell? ⟨wr.heap.size, 5, none⟩ = some (.int .i64 x.e.i) ∧ W.cell? ⟨wr.heap.size, 6, none⟩ = some (.int .i64 x.e.v) ∧ W.cell? ⟨g, q * 3 + 2, none⟩ = some (.slice (some ⟨g2, 0, none⟩) d2.n d2.c)) _ _ _ _ ?_
        refine held_nameP ⟨x0, x1, x2, z0, z1, z2, z3, z4, z5, z6, s2⟩ (fun hS => ?_)
        refine wpAnyH_take (i := 0) (oi := ⟨_, _, _, _, _, _⟩) (v := .pointer (some ⟨w.heap.size, 2, none⟩)) rfl (by kernel_rfl) (by kernel_rfl) (by kernel_rfl) (fun _ _ _ h => h) (Or.inl ⟨by kernel_rfl, fun W hS => by (obtain ⟨s0', s1', s2', s3', s4', s5', s6', s7', s8', s9', s10'⟩ := hS); go_simp⟩) hS ?_
        (try simp only [Act.put, List.setIfInBounds_toArray, List.set_cons_zero, List.set_cons_succ])
        refine wpAnyH_take (i := 1) (oi := ⟨_, _, _, _, _, _⟩) (v := .slice (some ⟨g, 0, none⟩) m d) rfl (by kernel_rfl) (by kernel_rfl) (by kernel_rfl) (fun _ _ _ h => h) (Or.inl ⟨by kernel_rfl, fun W hS => by (obtain ⟨s0', s1', s2', s3', s4', s5', s6', s7', s8', s9', s10'⟩ := hS); go_simp⟩) hS ?_
        (try simp only [Act.put, List.setIfInBounds_toArray, List.set_cons_zero, List.set_cons_succ])
        refine wpAnyH_take (i := 2) (oi := ⟨_, _, _, _, _, _⟩) (v := .pointer (some ⟨wr.heap.size, 0, none⟩)) rfl (by kernel_rfl) (by kernel_rfl) (by kernel_rfl) (fun _ _ _ h => h) (Or.inl ⟨by kernel_rfl, fun W hS => by (obtain ⟨s0', s1', s2', s3', s4', s5', s6', s7', s8', s9', s10'⟩ := hS); go_simp⟩) hS ?_
        (try simp only [Act.put, List.setIfInBounds_toArray, List.set_cons_zero, List.set_cons_succ])
        refine wpAnyH_take (i := 3) (oi := ⟨_, _, _, _, _, _⟩) (v := .int .i64 (q : Int)) rfl (by kernel_rfl) (by kernel_rfl) (by kernel_rfl) (fun _ _ _ h => h) (Or.inl ⟨by kernel_rfl, fun W hS => by (obtain ⟨s0', s1', s2', s3', s4', s5', s6', s7', s8', s9', s10'⟩ := hS); go_simp⟩) hS ?_
        (try simp only [Act.put, List.setIfInBounds_toArray, List.set_cons_zero, List.set_cons_succ])
        refine wpAnyH_take (i := 4) (oi := ⟨_, _, _, _, _, _⟩) (v := .pointer (some ⟨g, q * 3, none⟩)) rfl (by kernel_rfl) (by kernel_rfl) (by kernel_rfl) (fun _ _ _ h => h) (Or.inl ⟨by kernel_rfl, fun W hS => by (obtain ⟨s0', s1', s2', s3', s4', s5', s6', s7', s8', s9', s10'⟩ := hS); go_simp⟩) hS ?_
        (try simp only [Act.put, List.setIfInBounds_toArray, List.set_cons_zero, List.set_cons_succ])
        refine wpAnyH_take (i := 5) (oi := ⟨_, _, _, _, _, _⟩) (v := .pointer (some ⟨g, q * 3 + 2, none⟩)) rfl (by kernel_rfl) (by kernel_rfl) (by kernel_rfl) (fun _ _ _ h => h) (Or.inl ⟨by kernel_rfl, fun W hS => by (obtain ⟨s0', s1', s2', s3', s4', s5', s6', s7', s8', s9', s10'⟩ := hS); go_simp⟩) hS ?_
        (try simp only [Act.put, List.setIfInBounds_toArray, List.set_cons_zero, List.set_cons_succ])
        refine wpAnyH_take (i := 6) (oi := ⟨_, _, _, _, _, _⟩) (v := .slice (some ⟨g2, 0, none⟩) d2.n d2.c) rfl (by kernel_rfl) (by kernel_rfl) (by kernel_rfl) (fun _ _ _ h => h) (Or.inl ⟨by kernel_rfl, fun W hS => by (obtain ⟨s0', s1', s2', s3', s4', s5', s6', s7', s8', s9', s10'⟩ := hS); go_simp⟩) hS ?_
        (try simp only [Act.put, List.setIfInBounds_toArray, List.set_cons_zero, List.set_cons_succ])
        refine wpAnyH_take (i := 7) (oi := ⟨_, _, _, _, _, _⟩) (v := .pointer (some ⟨wr.heap.size, 1, none⟩)) rfl (by kernel_rfl) (by kernel_rfl) (by kernel_rfl) (fun _ _ _ h => h) (Or.inl ⟨by kernel_rfl, fun W hS => by (obtain ⟨s0', s1', s2', s3', s4', s5', s6', s7', s8', s9', s10'⟩ := hS); go_simp⟩) hS ?_
        (try simp only [Act.put, List.setIfInBounds_toArray, List.set_cons_zero, List.set_cons_succ])
        refine wpAnyH_take (i := 8) (oi := ⟨_, _, _, _, _, _⟩) (v := .int .i64 (r : Int)) rfl (by kernel_rfl) (by kernel_rfl) (by kernel_rfl) (fun _ _ _ h => h) (Or.inl ⟨by kernel_rfl, fun W hS => by (obtain ⟨s0', s1', s2', s3', s4', s5', s6', s7', s8', s9', s10'⟩ := hS); go_simp⟩) hS ?_
        (try simp only [Act.put, List.setIfInBounds_toArray, List.set_cons_zero, List.set_cons_succ])
        refine wpAnyH_take (i := 9) (oi := ⟨_, _, _, _, _, _⟩) (v := .pointer (some ⟨wr.heap.size, 2, none⟩)) rfl (by kernel_rfl) (by kernel_rfl) (by kernel_rfl) (fun _ _ _ h => h) (Or.inl ⟨by kernel_rfl, fun W hS => by (obtain ⟨s0', s1', s2', s3', s4', s5', s6', s7', s8', s9', s10'⟩ := hS); go_simp⟩) hS ?_
        (try simp only [Act.put, List.setIfInBounds_toArray, List.set_cons_zero, List.set_cons_succ])
        refine wpAnyH_take (i := 10) (oi := ⟨_, _, _, _, _, _⟩) (v := .pointer (some ⟨wr.heap.size, 6, none⟩)) rfl (by kernel_rfl) (by kernel_rfl) (by kernel_rfl) (fun _ _ _ h => h) (Or.inl ⟨by kernel_rfl, fun W hS => by (obtain ⟨s0', s1', s2', s3', s4', s5', s6', s7', s8', s9', s10'⟩ := hS); go_simp⟩) hS ?_
        (try simp only [Act.put, List.setIfInBounds_toArray, List.set_cons_zero, List.set_cons_succ])
        refine wpAnyH_take (i := 11) (oi := ⟨_, _, _, _, _, _⟩) (v := .int .i64 x.e.v) rfl (by kernel_rfl) (by kernel_rfl) (by kernel_rfl) (fun _ _ _ h => h) (Or.inl ⟨by kernel_rfl, fun W hS => by (obtain ⟨s0', s1', s2', s3', s4', s5', s6', s7', s8', s9', s10'⟩ := hS); go_simp⟩) hS ?_
        (try simp only [Act.put, List.setIfInBounds_toArray, List.set_cons_zero, List.set_cons_succ])
        refine wpAnyH_take (i := 12) (oi := ⟨_, _, _, _, _, _⟩) (v := .pointer (some ⟨g2, r * 5, none⟩)) rfl (by kernel_rfl) (by kernel_rfl) (by kernel_rfl) (fun _ _ _ h => h) (Or.inl ⟨by kernel_rfl, fun W hS => by (obtain ⟨s0', s1', s2', s3', s4', s5', s6', s7', s8', s9', s10'⟩ := hS); go_simp⟩) hS ?_
        (try simp only [Act.put, List.setIfInBounds_toArray, List.set_cons_zero, List.set_cons_succ])
        refine wpAnyH_take (i := 13) (oi := ⟨_, _, _, _, _, _⟩) (v := .pointer (some ⟨g2, r * 5 + 4, none⟩)) rfl (by kernel_rfl) (by kernel_rfl) (by kernel_rfl) (fun _ _ _ h => h) (Or.inl ⟨by kernel_rfl, fun W hS => by (obtain ⟨s0', s1', s2', s3', s4', s5', s6', s7', s8', s9', s10'⟩ := hS); go_simp⟩) hS ?_
        (try simp only [Act.put, List.setIfInBounds_toArray, List.set_cons_zero, List.set_cons_succ])
        refine wpAnyH_ready (rs := [14]) (by kernel_rfl) (by simp) (AllReadyH.cons rfl (fun K hK => ?_) AllReadyH.nil)
        go_simp
        have q0 := HPB.out.cell (i := 0) rfl
        have q1 := HPB.out.cell (i := 1) rfl
        have q2 := HPB.out.cell (i := 2) rfl
        have HXN := X5.out.other (p := ⟨g2, r * 5 + 4, none⟩) hxw (.int .i64 x.e.v)
        have q10 : (W5.setCell ⟨g2, r * 5 + 4, none⟩ (.int .i64 x.e.v)).cell? ⟨g, q * 3 + 2, none⟩ = some (.slice (some ⟨g2, 0, none⟩) d2.n d2.c) := (World.cell?_of_block (a := ⟨g, q * 3 + 2, none⟩) (Below.heap_setCell W5 ⟨g2, r * 5 + 4, none⟩ (.int .i64 x.e.v) g hgg)).trans s2
        refine hK.out _ _ ⟨q0, q1, q2, HXN.cell (i := 0) rfl, HXN.cell (i := 1) rfl, HXN.cell (i := 2) rfl, HXN.cell (i := 3) rfl, HXN.cell (i := 4) rfl, HXN.cell (i := 5) rfl, HXN.cell (i := 6) rfl, q10⟩ (fun hS => ?_)
        clear hK K
        (try simp only [Act.put, List.setIfInBounds_toArray, List.set_cons_zero, List.set_cons_succ])
        refine wpAnyH_done (by kernel_rfl) ?_ _
        go_wp2
        go_roundw
        case rel => exact ⟨j + 1, _, by omega, by go_num, HPU, HSD, HK, HBK2, HSM2, HPY, HPB⟩
        case measure => simp [intOf]; omega
    · obtain rfl : j = k := by omega
      have HALL : Hid (us.all (fitB (bs.map HE.sd)) = true) := Lib.hid (by rw [List.all_eq_true]; intro y hy; exact hfit.out y (by rw [List.take_of_length_le (by rw [HUL.out]; exact Nat.le_refl _)]; exact hy))
      have HFI : Hid (cur.map HE.sd = putL (bs.map HE.sd) us) := Lib.hid (by rw [hsd.out, List.take_of_length_le (by rw [HUL.out]; exact Nat.le_refl _)])
      go_wp2
      go_ret
      unfold FPutRes
      rw [HALL.out]
      exact ⟨rfl, fun _ => ⟨cur, ho.out, HFI.out, hblk.out⟩, honly.out⟩
end Go.Proofs.Ytpgnappddddlpaa
namespace Go.Proofs.Ytpgnappddddlpaa
open Go.RowKit
set_option linter.unusedVariables false

theorem few_same {M : Nat} {bs bs' : List HE} (h : ∀ d ∈ bs', d.es.length = d.n) (hb : ∀ d ∈ bs, d.es.length = d.n) (hs : ∀ e ∈ bs, e.n ≤ M) (he : bs'.map HE.sd = bs.map HE.sd) : ∀ e ∈ bs', e.n ≤ M := by
  intro e hh
  have h1 : e.sd ∈ bs'.map HE.sd := List.mem_map_of_mem hh
  rw [he] at h1
  obtain ⟨x, hx, hxe⟩ := List.mem_map.1 h1
  have h2 := h e hh
  have h3 := hb x hx
  have h4 := hs x hx
  have h5 : x.es = e.es := by unfold HE.sd at hxe; exact congrArg (fun t => t.2.2) hxe
  rw [h5] at h3
  omega
theorem Blk.only {S : Nat → Prop} {w w' : World} {b : Nat} {cs : Array Value} {t : TypeId} (h : Blk w b cs t) (k : OnlyB S w w') (hs : ¬ S b) : Blk w' b cs t := h.keep (k.block b h.lt hs)
theorem OwnH.apartB {w : World} {lo n c b : Nat} {A : Option Addr} {bs : List HE} {cs : Array Value} {t : TypeId} (k : OwnH w lo A n c bs) (h : Blk w b cs t) (h1 : 85 ≠ t) (h2 : 40 ≠ t) : ¬ blkH A n c bs b := fun hg => by
  rcases hg with hg | ⟨dd, hd, hg⟩
  · exact own_kind k.row h h1 hg
  · exact own_kind (k.dat.own dd hd) h h2 hg
/-- Five cells of a block are written. -/
theorem Blk.five {w : World} {b : Nat} {t : TypeId} {a0 a1 a2 a3 a4 v0 v1 v2 v3 v4 : Value} (h : Blk w b #[a0, a1, a2, a3, a4] t) : Blk (((((w.setCell ⟨b, 0, none⟩ v0).setCell ⟨b, 1, none⟩ v1).setCell ⟨b, 2, none⟩ v2).setCell ⟨b, 3, none⟩ v3).setCell ⟨b, 4, none⟩ v4) b #[v0, v1, v2, v3, v4] t := by
  have h0 : Blk _ b #[v0, a1, a2, a3, a4] t := h.set 0 v0
  have h1 : Blk _ b #[v0, v1, a2, a3, a4] t := h0.set 1 v1
  have h2 : Blk _ b #[v0, v1, v2, a3, a4] t := h1.set 2 v2
  have h3 : Blk _ b #[v0, v1, v2, v3, a4] t := h2.set 3 v3
  exact h3.set 4 v4
/-- A farm's rows stay where a variable of another type is written. -/
theorem FOwn.boxed {w w' : World} {lo l h n c m d b : Nat} {A B : Option Addr} {es : List Int} {ls : List SD} {cs : Array Value} {t : TypeId} (k : FOwn w lo l h A n c B m d es ls) (hb : Blk w b cs t) (hg : w.grownBy w' (some b)) (h0 : 3 ≠ t) (h1 : 85 ≠ t) (h2 : 40 ≠ t) : FOwn w' lo l h A n c B m d es ls := by
  obtain ⟨k1, ⟨bs, ho, hx, hr⟩, k3⟩ := k
  exact ⟨own_kept k1 hg (own_kind k1 hb h0), ⟨bs, ho.but (S := fun g => g = b) ((OnlyB.refl _ _).grown hg (fun i hi => by injection hi with hi; exact hi.symm)) (fun g hg2 hh => by have h5 : g = b := hh; subst h5; exact ho.apartB hb h1 h2 hg2), hx, hr⟩, k3⟩
end Go.Proofs.Ytpgnappddddlpaa
