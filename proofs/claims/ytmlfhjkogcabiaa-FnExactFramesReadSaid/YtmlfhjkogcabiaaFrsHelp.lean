/- The contracts of the laws' helpers that compare lists of frames, write marks into them and look for the marks. Condition: at most 2^21 of each. -/
import Derived.Test.YtmlfhjkogcabiaaFrOwn
import Derived.Test.YtmlfhjkogcabiaaFrKeep
import Derived.Deep.RegionWith
namespace Go.Proofs.Ytmlfhjkogcabiaa
open Go.RowKit

set_option maxRecDepth 10000 in
set_option maxHeartbeats 1000000 in
theorem eqFrs_any (A B : Option Addr) (n c d : Nat) (es es' : List FrE) (w : World) (ha : SlR w A n es) (hb : SlR w B n es') (hx : es.map FrE.fr = es'.map FrE.fr) (hn : n ≤ 2097152) (hs : ∀ e ∈ es, e.d.n ≤ 2097152) :
    Calls Try.prog 23 #[.slice A n c, .slice B n d] w (FTell w true) := by
  have HA := Lib.hid ha
  have HB := Lib.hid hb
  have HX := Lib.hid hx
  have HS := Lib.hid hs
  clear ha hb hx hs
  go_enter Try.func23, Try.ntmps23
  go_wp2
  go_loopw [5] (fun i wr => ∃ k : Nat, k ≤ n ∧ i = .int .i64 k ∧ Below w.heap.size w wr) (fun i _ => n - (intOf i).toNat)
  case atStart => exact ⟨0, Nat.zero_le _, rfl, Below.refl _ _⟩
  case round =>
    obtain ⟨k, hk, rfl, hbel⟩ := hrel
    by_cases hlt : k < n
    · obtain ⟨b, off, e, rfl, hbw, he, hok, c0, c1⟩ := HA.out.at_ hlt
      obtain ⟨b', off', e', rfl, hbw', he', hok', c0', c1'⟩ := HB.out.at_ hlt
      have c0 := (hbel.cell (p := ⟨b, off + k * 2, none⟩) hbw).trans c0
      have c1 := (hbel.cell (p := ⟨b, off + k * 2 + 1, none⟩) hbw).trans c1
      have c0' := (hbel.cell (p := ⟨b', off' + k * 2, none⟩) hbw').trans c0'
      have c1' := (hbel.cell (p := ⟨b', off' + k * 2 + 1, none⟩) hbw').trans c1'
      obtain ⟨hnm, hxs⟩ := fr_split (fr_map_at HX.out he.out he'.out)
      have HC := Lib.hid (fun w' (h : Below wr.heap.size wr w') => eqFr_any e.k e.d e'.d w' ((hok.out.below hbel).below h) ((hok'.out.below hbel).below h) hxs (HS.out e (List.mem_of_getElem? he.out)))
      rw [← hnm] at c0'
      have HBL := Lib.hid hbel
      clear hbel hnm hxs
      go_wp2
      go_region_with (go_at_call 54; ((with_reducible refine (HC.out _ (by first | exact Below.refl _ _ | exact (Below.refl _ _).drew | exact below_drewN (Below.refl _ _) _)).mono ?_)); rintro e1 w1 ⟨rfl, hb1⟩)
      all_goals
        go_wp2
        go_roundw
        case rel => exact ⟨k + 1, by omega, by go_num, by first | exact HBL.out.trans (hb1.mono HBL.out.size) | exact HBL.out.drew.trans (hb1.mono HBL.out.size) | exact (HBL.out.drew.trans (hb1.mono HBL.out.size)).drew | exact (below_drewN HBL.out _).trans (hb1.mono HBL.out.size)⟩
        case measure => simp [intOf]; omega
    · go_wp2
      go_ret
      exact ⟨rfl, hbel⟩

/-! ### marks -/
def markR (k : Nat) (e : FrE) : FrE := ⟨(k : Int), ⟨e.d.A, e.d.n, e.d.c, marksK (k + 1) e.d.n⟩⟩
def markRs : Nat → List FrE → List FrE
  | _, [] => []
  | k, e :: r => markR k e :: markRs (k + 1 + e.d.n) r
def endRs : Nat → List FrE → Nat
  | k, [] => k
  | k, e :: r => endRs (k + 1 + e.d.n) r
theorem markRs_append : ∀ (xs ys : List FrE) (k : Nat), markRs k (xs ++ ys) = markRs k xs ++ markRs (endRs k xs) ys
  | [], _, _ => rfl
  | x :: r, ys, k => by simp [markRs, endRs, markRs_append r ys]
theorem endRs_append : ∀ (xs ys : List FrE) (k : Nat), endRs k (xs ++ ys) = endRs (endRs k xs) ys
  | [], _, _ => rfl
  | x :: r, ys, k => by simp [endRs, endRs_append r ys]
theorem endRs_le : ∀ (xs : List FrE) (k : Nat), k ≤ endRs k xs
  | [], _ => Nat.le_refl _
  | x :: r, k => by
    have := endRs_le r (k + 1 + x.d.n)
    simp only [endRs]
    omega
theorem endRs_sum : ∀ (xs : List FrE) (k : Nat), endRs k xs = k + xs.length + (xs.map fun e => e.d.n).sum
  | [], _ => rfl
  | x :: r, k => by
    rw [endRs, endRs_sum r]
    simp only [List.length_cons, List.map_cons, List.sum_cons]
    omega
theorem markRs_length : ∀ (xs : List FrE) (k : Nat), (markRs k xs).length = xs.length
  | [], _ => rfl
  | x :: r, k => by simp [markRs, markRs_length r]
def blkR (A : Option Addr) (es : List FrE) (b : Nat) : Prop := (∃ o s, A = some ⟨b, o, s⟩) ∨ ∃ e ∈ es, e.d.v.ownBlock = some b
def MarkedRs (w : World) (lo k : Nat) (A : Option Addr) (n c : Nat) (es : List FrE) (e : Ending) (w' : World) : Prop :=
  e = .returned (.int .i64 (endRs k es : Int)) ∧ OwnR w' lo A n c (markRs k es) ∧ Only (blkR A es) w w'
theorem fr_block {w : World} {lo e size g n c m : Nat} {xs : List Value} (h : w.ownsRow lo e size (.slice (some ⟨g, 0, none⟩) n c) m xs) : ∃ cur, w.heap[g]? = some (.cells cur e (0, 0)) := by
  rcases h.2 with ⟨h2, _⟩ | ⟨g', cap, cur, e, _, hg, _⟩
  · cases h2
  · injection e with e1 _ _
    injection e1 with e1
    injection e1 with e1
    subst e1
    exact ⟨cur, hg⟩

set_option maxRecDepth 10000 in
set_option maxHeartbeats 2000000 in
theorem markRs_any (A : Option Addr) (n c lo k : Nat) (es : List FrE) (w : World) (ho : OwnR w lo A n c es) (hn : n ≤ 2097152) (hs : ∀ e ∈ es, e.d.n ≤ 2097152) (hk0 : 0 < k) (hk : endRs k es ≤ 4194304) :
    Calls Try.prog 26 #[.slice A n c, .int .i64 (k : Int)] w (MarkedRs w lo k A n c es) := by
  obtain ⟨hr, hl, hd⟩ := ho
  have HS := Lib.hid hs
  have HL := Lib.hid hl
  have HK := Lib.hid hk
  clear hs hl hk
  go_enter Try.func26, Try.ntmps26
  go_wp2
  go_loopw [1, 5] (fun t i wr => ∃ (j q : Nat) (pre post : List FrE), j ≤ n ∧ i = .int .i64 j ∧ t = .int .i64 (q : Int) ∧ Hid (q = endRs k pre) ∧ 0 < q ∧ Hid (es = pre ++ post) ∧ Hid (pre.length = j) ∧ wr.ownsRow lo 45 2 (.slice A n c) n ((markRs k pre ++ post).flatMap FrE.cells) ∧ OwnB wr lo ((markRs k pre ++ post).map FrE.d) ∧ Only (blkR A es) w wr) (fun _ i _ => n - (intOf i).toNat)
  case atStart => exact ⟨0, k, [], es, Nat.zero_le _, rfl, rfl, Lib.hid rfl, hk0, Lib.hid rfl, Lib.hid rfl, hr, hd, Only.refl _ _⟩
  case round =>
    obtain ⟨j, q, pre, post, hj, rfl, rfl, hq, hq0, hes, hpl, hown, hdat, honly⟩ := hrel
    by_cases hlt : j < n
    · obtain ⟨e, post, rfl⟩ : ∃ e r, post = e :: r := by
        cases post with
        | nil => exfalso; have := congrArg List.length hes.out; have := HL.out; have := hpl.out; simp at *; omega
        | cons e r => exact ⟨e, r, rfl⟩
      obtain ⟨g, cap, hv, hbase, hgl⟩ := hown.form (by omega)
      obtain ⟨rfl, -, rfl⟩ : A = some ⟨g, 0, none⟩ ∧ n = n ∧ c = cap := by injection hv with e1 e2 e3; exact ⟨e1, e2, e3⟩
      clear hv
      have hq2 : q + 1 + e.d.n ≤ 4194304 := by
        have h1 := HK.out
        rw [hes.out, endRs_append, endRs, ← hq.out] at h1
        have := endRs_le post (q + 1 + e.d.n)
        omega
      have hen : e.d.n ≤ 2097152 := HS.out e (by rw [hes.out]; simp)
      have HY := Lib.hid honly
      have hml : (markRs k pre).length = j := by rw [markRs_length, hpl.out]
      have hget : (markRs k pre ++ e :: post)[j]? = some e := by simp [hml]
      have hc0 : wr.cell? ⟨g, j * 2, none⟩ = some (.int .i64 e.k) := by
        rw [hown.cellAt (j * 2) (by omega)]
        exact flat_get FrE.cells 2 FrE.cells_len _ j 0 e hget (by omega)
      have hc1 : wr.cell? ⟨g, j * 2 + 1, none⟩ = some (.slice e.d.A e.d.n e.d.c) := by
        rw [hown.cellAt (j * 2 + 1) (by omega)]
        exact flat_get FrE.cells 2 FrE.cells_len _ j 1 e hget (by omega)
      have hf0 := hown.frozenAt (j * 2)
      have hst := hown.stored (j * 2) (.int .i64 (q : Int))
      have e2 := flat_set FrE.cells 2 FrE.cells_len (markRs k pre ++ e :: post) j 0 e ⟨(q : Int), e.d⟩ (.int .i64 (q : Int)) hget (by omega) rfl
      rw [Nat.add_zero] at e2
      have e3 : (markRs k pre ++ e :: post).set j ⟨(q : Int), e.d⟩ = markRs k pre ++ ⟨(q : Int), e.d⟩ :: post := by
        rw [List.set_append_right _ _ (by rw [hml]; exact Nat.le_refl _), hml, Nat.sub_self]
        rfl
      rw [e2, e3] at hst
      obtain ⟨cur, hg0⟩ := fr_block hown
      have hd2 := hdat.kept hst.2 (hdat.far hg0 (by decide))
      have HD2 := Lib.hid hd2
      have HST := Lib.hid hst
      obtain ⟨cur2, hg02⟩ := fr_block hst.1
      have HG := Lib.hid hg02
      have hmapd : (markRs k pre ++ e :: post).map FrE.d = (markRs k pre).map FrE.d ++ e.d :: post.map FrE.d := by simp
      rw [hmapd] at HD2
      have M := Lib.hid (markB_any e.d.A e.d.n e.d.c lo (q + 1) e.d.xs _ (HD2.out.own e.d (by simp)) hen (by omega))
      have eq1 : ((q + 1 : Nat) : Int) = (q : Int) + 1 := by omega
      rw [eq1] at M
      clear hown hdat honly hst hd2 e2 e3 hget hg0 hg02 hmapd eq1 hml
      go_wp2_with fail
      refine M.out.mono ?_
      rintro e1 w2 ⟨rfl, ho2, hg2⟩
      go_wp2
      go_roundw
      case rel =>
        have hen2 : markRs k (pre ++ [e]) = markRs k pre ++ [markR q e] := by rw [markRs_append, ← hq.out]; rfl
        refine ⟨j + 1, q + 1 + e.d.n, pre ++ [e], post, by omega, by go_num, rfl, Lib.hid ?_, by omega, Lib.hid ?_, Lib.hid (by simp [hpl.out]), ?_, ?_, ?_⟩
        · rw [endRs_append, ← hq.out]; rfl
        · rw [hes.out]; simp
        · have hcs : (markRs k (pre ++ [e]) ++ post).flatMap FrE.cells = (markRs k pre ++ (⟨(q : Int), e.d⟩ : FrE) :: post).flatMap FrE.cells := by
            rw [hen2, List.append_assoc, List.flatMap_append, List.flatMap_append, List.flatMap_append, List.flatMap_cons]
            rfl
          rw [hcs]
          refine HST.out.1.kept hg2 (.inr (fun e4 => ?_))
          rcases HD2.out.far (HG.out) (by decide) e.d (by simp) with h5 | h5
          · rw [show (Value.slice e.d.A e.d.n e.d.c).ownBlock = none from h5] at e4
            cases e4
          · exact h5 e4.symm
        · rw [hen2, List.append_assoc, List.map_append]
          exact HD2.out.turn hg2 ho2 (marksK_small _ _)
        · refine (HY.out.grown HST.out.2 (fun i hi => ?_)).grown hg2 (fun i hi => ?_)
          · injection hi with hi
            subst hi
            exact .inl ⟨0, none, rfl⟩
          · exact .inr ⟨e, by rw [hes.out]; simp, hi⟩
      case measure => simp [intOf]; omega
    · obtain rfl : j = n := by omega
      have hpe : post = [] := by
        have h1 := congrArg List.length hes.out
        have h2 := HL.out
        have h3 := hpl.out
        rw [List.length_append] at h1
        exact List.eq_nil_of_length_eq_zero (by omega)
      subst hpe
      have HO := Lib.hid hown
      have HD := Lib.hid hdat
      have HY := Lib.hid honly
      clear hown hdat honly
      go_wp2
      go_ret
      have e1 := hes.out
      have hown := HO.out
      have hdat := HD.out
      rw [List.append_nil] at e1 hown hdat
      subst e1
      exact ⟨fr_int (by rw [hq.out]), ⟨hown, by rw [markRs_length]; exact HL.out, hdat⟩, HY.out⟩

set_option maxRecDepth 10000 in
set_option maxHeartbeats 2000000 in
theorem heldRs_any (A : Option Addr) (n c k : Nat) (es : List FrE) (w : World) (hr : SlR w A n (markRs k es)) (hn : n ≤ 2097152) (hs : ∀ e ∈ es, e.d.n ≤ 2097152) (hk0 : 0 < k) (hk : endRs k es ≤ 4194304) :
    Calls Try.prog 27 #[.slice A n c, .int .i64 (k : Int)] w (FNum w (endRs k es : Int)) := by
  have HS := Lib.hid hs
  have HR := Lib.hid hr
  have HK := Lib.hid hk
  have hlen : es.length = n := by have := hr.len; rw [markRs_length] at this; exact this
  have HL := Lib.hid hlen
  clear hs hr hk hlen
  go_enter Try.func27, Try.ntmps27
  go_wp2
  go_loopw [1, 5] (fun t i wr => ∃ (j q : Nat) (pre post : List FrE), j ≤ n ∧ i = .int .i64 j ∧ t = .int .i64 (q : Int) ∧ Hid (q = endRs k pre) ∧ 0 < q ∧ Hid (es = pre ++ post) ∧ Hid (pre.length = j) ∧ Below w.heap.size w wr) (fun _ i _ => n - (intOf i).toNat)
  case atStart => exact ⟨0, k, [], es, Nat.zero_le _, rfl, rfl, Lib.hid rfl, hk0, Lib.hid rfl, Lib.hid rfl, Below.refl _ _⟩
  case round =>
    obtain ⟨j, q, pre, post, hj, rfl, rfl, hq, hq0, hes, hpl, hbel⟩ := hrel
    by_cases hlt : j < n
    · obtain ⟨e, post, rfl⟩ : ∃ e r, post = e :: r := by
        cases post with
        | nil => exfalso; have := congrArg List.length hes.out; have := HL.out; have := hpl.out; simp at *; omega
        | cons e r => exact ⟨e, r, rfl⟩
      obtain ⟨b, off, e0, rfl, hbw, he, hok, c0, c1⟩ := HR.out.at_ hlt
      have he0 : e0 = markR q e := by
        have h1 := he.out
        rw [hes.out, markRs_append, ← hq.out, markRs, List.getElem?_append_right (by rw [markRs_length, hpl.out]; exact Nat.le_refl _), markRs_length, hpl.out, Nat.sub_self] at h1
        simpa using h1.symm
      subst he0
      have hq2 : q + 1 + e.d.n ≤ 4194304 := by
        have h1 := HK.out
        rw [hes.out, endRs_append, endRs, ← hq.out] at h1
        have := endRs_le post (q + 1 + e.d.n)
        omega
      have hen : e.d.n ≤ 2097152 := HS.out e (by rw [hes.out]; simp)
      have c0 : wr.cell? ⟨b, off + j * 2, none⟩ = some (.int .i64 (q : Int)) := (hbel.cell (p := ⟨b, off + j * 2, none⟩) hbw).trans c0
      have c1 : wr.cell? ⟨b, off + j * 2 + 1, none⟩ = some (.slice e.d.A e.d.n e.d.c) := (hbel.cell (p := ⟨b, off + j * 2 + 1, none⟩) hbw).trans c1
      have H := Lib.hid (fun W (h : Below w.heap.size w W) => heldB_any e.d.A e.d.n e.d.c (q + 1) W (hok.out.rd.below h) hen (by omega))
      have eq1 : ((q + 1 : Nat) : Int) = (q : Int) + 1 := by omega
      rw [eq1] at H
      have HB := Lib.hid hbel
      clear hbel eq1 he hok
      go_wp2_with fail
      refine (H.out _ (by first | exact HB.out | exact HB.out.drew)).mono ?_
      rintro e1 w2 ⟨rfl, rfl⟩
      go_wp2
      go_roundw
      case rel => exact ⟨j + 1, q + 1 + e.d.n, pre ++ [e], post, by omega, by go_num, rfl, Lib.hid (by rw [endRs_append, ← hq.out]; rfl), by omega, Lib.hid (by rw [hes.out]; simp), Lib.hid (by simp [hpl.out]), by first | exact HB.out | exact HB.out.drew⟩
      case measure => simp [intOf]; omega
    · obtain rfl : j = n := by omega
      have hpe : post = [] := by
        have h1 := congrArg List.length hes.out
        have h2 := HL.out
        have h3 := hpl.out
        rw [List.length_append] at h1
        exact List.eq_nil_of_length_eq_zero (by omega)
      subst hpe
      have HB := Lib.hid hbel
      clear hbel
      go_wp2
      go_ret
      have e1 := hes.out
      rw [List.append_nil] at e1
      subst e1
      exact ⟨fr_int (by rw [hq.out]), HB.out⟩
end Go.Proofs.Ytmlfhjkogcabiaa
