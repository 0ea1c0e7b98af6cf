/- The contract of the laws' helper that writes marks into operations of the call's own. Condition: at most 2^21 of each. -/
import Derived.Test.YtfcomnpoehpgiaaMarkAll
namespace Go.Proofs.Ytfcomnpoehpgiaa
open Go.RowKit

def markO (k : Nat) (e : OpE) : OpE := ⟨(k : Int), mt (k + 1), mt (k + 2), ⟨e.d.A, e.d.n, e.d.c, marksK (k + 3) e.d.n⟩⟩
def markOs : Nat → List OpE → List OpE
  | _, [] => []
  | k, e :: r => markO k e :: markOs (k + 3 + e.d.n) r
def endOs : Nat → List OpE → Nat
  | k, [] => k
  | k, e :: r => endOs (k + 3 + e.d.n) r
theorem markOs_append : ∀ (xs ys : List OpE) (k : Nat), markOs k (xs ++ ys) = markOs k xs ++ markOs (endOs k xs) ys
  | [], _, _ => rfl
  | x :: r, ys, k => by simp [markOs, endOs, markOs_append r ys]
theorem endOs_append : ∀ (xs ys : List OpE) (k : Nat), endOs k (xs ++ ys) = endOs (endOs k xs) ys
  | [], _, _ => rfl
  | x :: r, ys, k => by simp [endOs, endOs_append r ys]
theorem endOs_le : ∀ (xs : List OpE) (k : Nat), k ≤ endOs k xs
  | [], _ => Nat.le_refl _
  | x :: r, k => by
    have := endOs_le r (k + 3 + x.d.n)
    simp only [endOs]
    omega
theorem markOs_length : ∀ (xs : List OpE) (k : Nat), (markOs k xs).length = xs.length
  | [], _ => rfl
  | x :: r, k => by simp [markOs, markOs_length r]

def blkO (A : Option Addr) (es : List OpE) (b : Nat) : Prop := (∃ o s, A = some ⟨b, o, s⟩) ∨ ∃ e ∈ es, e.d.v.ownBlock = some b

def MarkedOs (w : World) (lo k : Nat) (A : Option Addr) (n c : Nat) (es : List OpE) (e : Ending) (w' : World) : Prop :=
  e = .returned (.int .i64 (endOs k es : Int)) ∧ w'.ownsRow lo 30 4 (.slice A n c) n ((markOs k es).flatMap OpE.cells) ∧ OwnB w' lo ((markOs k es).map OpE.d) ∧ Only (blkO A es) w w'

/-- One cell of one operation is written; its bytes stay. -/
theorem putO {w : World} {lo g n c j i : Nat} {pre post : List OpE} {e e' : OpE} {u : Value} (hr : w.ownsRow lo 30 4 (.slice (some ⟨g, 0, none⟩) n c) n ((pre ++ e :: post).flatMap OpE.cells)) (hd : OwnB w lo ((pre ++ e :: post).map OpE.d))
    (hj : pre.length = j) (hi : i < 4) (hc : e'.cells = e.cells.set i u) (hdd : e'.d = e.d) :
    (w.setCell ⟨g, j * 4 + i, none⟩ u).ownsRow lo 30 4 (.slice (some ⟨g, 0, none⟩) n c) n ((pre ++ e' :: post).flatMap OpE.cells) ∧ OwnB (w.setCell ⟨g, j * 4 + i, none⟩ u) lo ((pre ++ e' :: post).map OpE.d) ∧ w.grownBy (w.setCell ⟨g, j * 4 + i, none⟩ u) (some g) := by
  have hget : (pre ++ e :: post)[j]? = some e := by simp [hj]
  have hst := hr.stored (j * 4 + i) u
  have e3 : (pre ++ e :: post).set j e' = pre ++ e' :: post := by
    rw [List.set_append_right _ _ (by omega), hj, Nat.sub_self]
    rfl
  rw [flat_set OpE.cells 4 OpE.cells_len (pre ++ e :: post) j i e e' u hget hi hc, e3] at hst
  obtain ⟨cur, hg0⟩ := own_block hr
  have hm : (pre ++ e' :: post).map OpE.d = (pre ++ e :: post).map OpE.d := by simp [hdd]
  rw [hm]
  exact ⟨hst.1, hd.kept hst.2 (hd.far hg0 (by decide)), hst.2⟩
theorem cellO {w : World} {lo g n c j i : Nat} {pre post : List OpE} {e : OpE} (hr : w.ownsRow lo 30 4 (.slice (some ⟨g, 0, none⟩) n c) n ((pre ++ e :: post).flatMap OpE.cells)) (hj : pre.length = j) (hjn : j < n) (hi : i < 4) : w.cell? ⟨g, j * 4 + i, none⟩ = e.cells[i]? := by
  have hget : (pre ++ e :: post)[j]? = some e := by simp [hj]
  rw [hr.cellAt (j * 4 + i) (by omega)]
  exact flat_get OpE.cells 4 OpE.cells_len _ j i e hget hi

set_option maxRecDepth 10000 in
set_option maxHeartbeats 2000000 in
theorem markOs_any (A : Option Addr) (n c lo k : Nat) (es : List OpE) (w : World) (hr : w.ownsRow lo 30 4 (.slice A n c) n (es.flatMap OpE.cells)) (hd : OwnB w lo (es.map OpE.d)) (hl : es.length = n) (hn : n ≤ 2097152) (hs : ∀ e ∈ es, e.d.n ≤ 2097152) (hk0 : 0 < k) (hk : endOs k es ≤ 4194304) :
    Calls Try.prog 81 #[.slice A n c, .int .i64 (k : Int)] w (MarkedOs w lo k A n c es) := by
  have HS := Lib.hid hs
  have HL := Lib.hid hl
  have HK := Lib.hid hk
  clear hs hl hk
  go_enter Try.func81, Try.ntmps81
  go_wp2
  go_loopw [1, 5] (fun t i wr => ∃ (j q : Nat) (pre post : List OpE), j ≤ n ∧ i = .int .i64 j ∧ t = .int .i64 (q : Int) ∧ Hid (q = endOs k pre) ∧ 0 < q ∧ Hid (es = pre ++ post) ∧ Hid (pre.length = j) ∧ wr.ownsRow lo 30 4 (.slice A n c) n ((markOs k pre ++ post).flatMap OpE.cells) ∧ OwnB wr lo ((markOs k pre ++ post).map OpE.d) ∧ Only (blkO A es) w wr) (fun _ i _ => n - (intOf i).toNat)
  case atStart => exact ⟨0, k, [], es, Nat.zero_le _, rfl, rfl, Lib.hid rfl, hk0, Lib.hid rfl, Lib.hid rfl, hr, hd, Only.refl _ _⟩
  case round =>
    obtain ⟨j, q, pre, post, hj, rfl, rfl, hq, hq0, hes, hpl, hown, hdat, honly⟩ := hrel
    by_cases hlt : j < n
    · obtain ⟨e, post, rfl⟩ : ∃ e r, post = e :: r := by
        cases post with
        | nil => exfalso; have := congrArg List.length hes.out; have := HL.out; have := hpl.out; simp at *; omega
        | cons e r => exact ⟨e, r, rfl⟩
      obtain ⟨g, cap, hv, hbase, hgl⟩ := hown.form (by omega)
      obtain ⟨rfl, -, rfl⟩ : A = some ⟨g, 0, none⟩ ∧ n = n ∧ c = cap := by injection hv with e1 e2 e3; exact ⟨e1, e2, e3⟩
      clear hv
      have hq2 : q + 3 + e.d.n ≤ 4194304 := by
        have h1 := HK.out
        rw [hes.out, endOs_append, endOs, ← hq.out] at h1
        have := endOs_le post (q + 3 + e.d.n)
        omega
      have hen : e.d.n ≤ 2097152 := HS.out e (by rw [hes.out]; simp)
      have hml : (markOs k pre).length = j := by rw [markOs_length, hpl.out]
      have c0 : wr.cell? ⟨g, j * 4, none⟩ = some (.int .i64 e.kind) := cellO (e := e) (i := 0) hown hml hlt (by omega)
      have f0 := hown.frozenAt (j * 4)
      have S1 := Lib.hid (putO (e' := ⟨(q : Int), e.nm, e.to, e.d⟩) (i := 0) hown hdat hml (by omega) rfl rfl)
      have HY := Lib.hid honly
      have HML := Lib.hid hml
      have C1 := Lib.hid (fun W => markText_any' (q + 1) W (by omega) (by omega))
      have C2 := Lib.hid (fun W => markText_any' (q + 2) W (by omega) (by omega))
      have eq1 : ((q + 1 : Nat) : Int) = (q : Int) + 1 := by omega
      have eq2 : ((q + 2 : Nat) : Int) = (q : Int) + 1 + 1 := by omega
      have eq3 : ((q + 3 : Nat) : Int) = (q : Int) + 1 + 1 + 1 := by omega
      rw [eq1] at C1
      rw [eq2] at C2
      have EQ3 := Lib.hid eq3
      simp only [Nat.add_zero] at S1
      clear hown hdat honly hml eq1 eq2 eq3
      go_wp2_with fail
      refine (C1.out _).mono ?_
      rintro e1 w1 ⟨rfl, hb1⟩
      have r1 := own_below S1.out.1 hb1
      have d1 := S1.out.2.1.below hb1
      have c1 : w1.cell? ⟨g, j * 4 + 1, none⟩ = some (.string e.nm) := cellO (e := ⟨(q : Int), e.nm, e.to, e.d⟩) (i := 1) r1 HML.out hlt (by omega)
      have f1 := r1.frozenAt (j * 4 + 1)
      have S2 := Lib.hid (putO (e' := ⟨(q : Int), mt (q + 1), e.to, e.d⟩) (i := 1) r1 d1 HML.out (by omega) rfl rfl)
      have HB1 := Lib.hid hb1
      clear r1 d1 hb1
      go_wp2_with fail
      refine (C2.out _).mono ?_
      rintro e1 w2 ⟨rfl, hb2⟩
      have r2 := own_below S2.out.1 hb2
      have d2 := S2.out.2.1.below hb2
      have c2 : w2.cell? ⟨g, j * 4 + 2, none⟩ = some (.string e.to) := cellO (e := ⟨(q : Int), mt (q + 1), e.to, e.d⟩) (i := 2) r2 HML.out hlt (by omega)
      have c3 : w2.cell? ⟨g, j * 4 + 3, none⟩ = some (.slice e.d.A e.d.n e.d.c) := cellO (e := ⟨(q : Int), mt (q + 1), e.to, e.d⟩) (i := 3) r2 HML.out hlt (by omega)
      have f2 := r2.frozenAt (j * 4 + 2)
      have S3 := Lib.hid (putO (e' := ⟨(q : Int), mt (q + 1), mt (q + 2), e.d⟩) (i := 2) r2 d2 HML.out (by omega) rfl rfl)
      have HB2 := Lib.hid hb2
      have hmapd : (markOs k pre ++ (⟨(q : Int), mt (q + 1), mt (q + 2), e.d⟩ : OpE) :: post).map OpE.d = (markOs k pre).map OpE.d ++ e.d :: post.map OpE.d := by simp
      have D3 := Lib.hid S3.out.2.1
      rw [hmapd] at D3
      have M := Lib.hid (markB_any e.d.A e.d.n e.d.c lo (q + 3) e.d.xs _ (D3.out.own e.d (by simp)) hen (by omega))
      rw [EQ3.out] at M
      clear r2 d2 hb2 hmapd
      go_wp2_with fail
      refine M.out.mono ?_
      rintro e1 w3 ⟨rfl, ho3, hg3⟩
      go_wp2
      go_roundw
      case rel =>
        have hen2 : markOs k (pre ++ [e]) = markOs k pre ++ [markO q e] := by rw [markOs_append, ← hq.out]; rfl
        refine ⟨j + 1, q + 3 + e.d.n, pre ++ [e], post, by omega, by go_num, rfl, Lib.hid ?_, by omega, Lib.hid ?_, Lib.hid (by simp [hpl.out]), ?_, ?_, ?_⟩
        · rw [endOs_append, ← hq.out]; rfl
        · rw [hes.out]; simp
        · have hcs : (markOs k (pre ++ [e]) ++ post).flatMap OpE.cells = (markOs k pre ++ (⟨(q : Int), mt (q + 1), mt (q + 2), e.d⟩ : OpE) :: post).flatMap OpE.cells := by
            rw [hen2, List.append_assoc, List.flatMap_append, List.flatMap_append, List.flatMap_append, List.flatMap_cons]
            rfl
          rw [hcs]
          refine S3.out.1.kept hg3 (.inr (fun e4 => ?_))
          obtain ⟨cur, hg0⟩ := own_block S3.out.1
          rcases D3.out.far hg0 (by decide) e.d (by simp) with h5 | h5
          · rw [show (Value.slice e.d.A e.d.n e.d.c).ownBlock = none from h5] at e4
            cases e4
          · exact h5 e4.symm
        · rw [hen2, List.append_assoc, List.map_append]
          exact D3.out.turn hg3 ho3 (marksK_small _ _)
        · have hS : ∀ i, some g = some i → blkO (some ⟨g, 0, none⟩) es i := fun i hi => by
            injection hi with hi
            subst hi
            exact .inl ⟨0, none, rfl⟩
          exact (((((HY.out.grown S1.out.2.2 hS).below HB1.out).grown S2.out.2.2 hS).below HB2.out).grown S3.out.2.2 hS).grown hg3 (fun i hi => .inr ⟨e, by rw [hes.out]; simp, hi⟩)
      case measure => simp [intOf]; omega
    · obtain rfl : j = n := by omega
      have hpe : post = [] := by
        have h1 := congrArg List.length hes.out
        have h2 := HL.out
        have h3 := hpl.out
        rw [List.length_append] at h1
        exact List.eq_nil_of_length_eq_zero (by omega)
      subst hpe
      go_wp2
      go_ret
      have e1 := hes.out
      rw [List.append_nil] at e1 hown hdat
      subst e1
      exact ⟨ret_int (by rw [hq.out]), hown, hdat, honly⟩
end Go.Proofs.Ytfcomnpoehpgiaa
