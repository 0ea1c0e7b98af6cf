/- The contracts of the laws' helpers that look for the marks, and of the two that mark a disk and look for its marks. Condition: at most 2^21 of each. -/
import Derived.Test.YtfcomnpoehpgiaaMarkOps
namespace Go.Proofs.Ytfcomnpoehpgiaa
open Go.RowKit

set_option maxRecDepth 10000 in
set_option maxHeartbeats 2000000 in
theorem heldFs_any (A : Option Addr) (n c k : Nat) (es : List Ent) (w : World) (hr : SlF w A n (markEs k es)) (hn : n ≤ 2097152) (hs : ∀ e ∈ es, e.d.n ≤ 2097152) (hk0 : 0 < k) (hk : endEs k es ≤ 4194304) :
    Calls Try.prog 43 #[.slice A n c, .int .i64 (k : Int)] w (Nums w (endEs k es)) := by
  have HS := Lib.hid hs
  have HR := Lib.hid hr
  have HK := Lib.hid hk
  have hlen : es.length = n := by have := hr.len; rw [markEs_length] at this; exact this
  have HL := Lib.hid hlen
  clear hs hr hk hlen
  go_enter Try.func43, Try.ntmps43
  go_wp2
  go_loopw [1, 5] (fun t i wr => ∃ (j q : Nat) (pre post : List Ent), j ≤ n ∧ i = .int .i64 j ∧ t = .int .i64 (q : Int) ∧ Hid (q = endEs k pre) ∧ 0 < q ∧ Hid (es = pre ++ post) ∧ Hid (pre.length = j) ∧ Below w.heap.size w wr) (fun _ i _ => n - (intOf i).toNat)
  case atStart => exact ⟨0, k, [], es, Nat.zero_le _, rfl, rfl, Lib.hid rfl, hk0, Lib.hid rfl, Lib.hid rfl, Below.refl _ _⟩
  case round =>
    obtain ⟨j, q, pre, post, hj, rfl, rfl, hq, hq0, hes, hpl, hbel⟩ := hrel
    by_cases hlt : j < n
    · obtain ⟨e, post, rfl⟩ : ∃ e r, post = e :: r := by
        cases post with
        | nil => exfalso; have := congrArg List.length hes.out; have := HL.out; have := hpl.out; simp at *; omega
        | cons e r => exact ⟨e, r, rfl⟩
      obtain ⟨b, off, e0, rfl, hbw, he, hok, c0, c1⟩ := HR.out.at_ hlt
      have he0 : e0 = markE q e := by
        have h1 := he.out
        rw [hes.out, markEs_append, ← hq.out, markEs, List.getElem?_append_right (by rw [markEs_length, hpl.out]; exact Nat.le_refl _), markEs_length, hpl.out, Nat.sub_self] at h1
        simpa using h1.symm
      subst he0
      have hq2 : q + 1 + e.d.n ≤ 4194304 := by
        have h1 := HK.out
        rw [hes.out, endEs_append, endEs, ← hq.out] at h1
        have := endEs_le post (q + 1 + e.d.n)
        omega
      have hen : e.d.n ≤ 2097152 := HS.out e (by rw [hes.out]; simp)
      have hbr : b < wr.heap.size := Nat.lt_of_lt_of_le hbw hbel.size
      have c0 : wr.cell? ⟨b, off + j * 2, none⟩ = some (.string (mt q)) := (hbel.cell (p := ⟨b, off + j * 2, none⟩) hbw).trans c0
      have c1 : wr.cell? ⟨b, off + j * 2 + 1, none⟩ = some (.slice e.d.A e.d.n e.d.c) := (hbel.cell (p := ⟨b, off + j * 2 + 1, none⟩) hbw).trans c1
      have C0 := fun W => markText_any' q W hq0 (by omega)
      have hxx : ((mt q).toList == (mt q).toList) = true := by simp
      generalize mt q = x at C0 c0 hxx
      have C := Lib.hid C0
      have H := Lib.hid (fun W (h : Below w.heap.size w W) => heldB_any e.d.A e.d.n e.d.c (q + 1) W (hok.out.rd.below h) hen (by omega))
      have eq1 : ((q + 1 : Nat) : Int) = (q : Int) + 1 := by omega
      rw [eq1] at H
      have HB := Lib.hid hbel
      clear C0 hbel eq1
      go_wp2
      go_region_with (go_at_call 84; ((with_reducible refine (C.out _).mono ?_)); rintro e1 w1 ⟨rfl, hb1⟩; have hcq : w1.cell? ⟨b, off + j * 2, none⟩ = some (.string x) := (hb1.cell (p := ⟨b, off + j * 2, none⟩) hbr).trans c0)
      all_goals
        have hb2 : Below w.heap.size w w1 := by first | exact HB.out.trans (hb1.mono HB.out.size) | exact HB.out.drew.trans (hb1.mono HB.out.size)
        have hcr : w1.cell? ⟨b, off + j * 2 + 1, none⟩ = some (.slice e.d.A e.d.n e.d.c) := (hb1.cell (p := ⟨b, off + j * 2 + 1, none⟩) hbr).trans c1
        go_wp2_with fail
        refine (H.out _ (by first | exact hb2 | exact hb2.drew)).mono ?_
        rintro e1 w2 ⟨rfl, rfl⟩
        go_wp2
        go_roundw
        case rel => exact ⟨j + 1, q + 1 + e.d.n, pre ++ [e], post, by omega, by go_num, rfl, Lib.hid (by rw [endEs_append, ← hq.out]; rfl), by omega, Lib.hid (by rw [hes.out]; simp), Lib.hid (by simp [hpl.out]), by first | exact hb2 | exact hb2.drew⟩
        case measure => simp [intOf]; omega
    · obtain rfl : j = n := by omega
      have hpe : post = [] := by
        have h1 := congrArg List.length hes.out
        have h2 := HL.out
        have h3 := hpl.out
        rw [List.length_append] at h1
        exact List.eq_nil_of_length_eq_zero (by omega)
      subst hpe
      go_wp2
      go_ret
      have e1 := hes.out
      rw [List.append_nil] at e1
      subst e1
      exact ⟨ret_int (by rw [hq.out]), hbel⟩

set_option maxRecDepth 10000 in
set_option maxHeartbeats 2000000 in
theorem heldOs_any (A : Option Addr) (n c k : Nat) (es : List OpE) (w : World) (hr : SlO w A n (markOs k es)) (hn : n ≤ 2097152) (hs : ∀ e ∈ es, e.d.n ≤ 2097152) (hk0 : 0 < k) (hk : endOs k es ≤ 4194304) :
    Calls Try.prog 82 #[.slice A n c, .int .i64 (k : Int)] w (Nums w (endOs k es)) := by
  have HS := Lib.hid hs
  have HR := Lib.hid hr
  have HK := Lib.hid hk
  have hlen : es.length = n := by have := hr.len; rw [markOs_length] at this; exact this
  have HL := Lib.hid hlen
  clear hs hr hk hlen
  go_enter Try.func82, Try.ntmps82
  go_wp2
  go_loopw [1, 5] (fun t i wr => ∃ (j q : Nat) (pre post : List OpE), j ≤ n ∧ i = .int .i64 j ∧ t = .int .i64 (q : Int) ∧ Hid (q = endOs k pre) ∧ 0 < q ∧ Hid (es = pre ++ post) ∧ Hid (pre.length = j) ∧ Below w.heap.size w wr) (fun _ i _ => n - (intOf i).toNat)
  case atStart => exact ⟨0, k, [], es, Nat.zero_le _, rfl, rfl, Lib.hid rfl, hk0, Lib.hid rfl, Lib.hid rfl, Below.refl _ _⟩
  case round =>
    obtain ⟨j, q, pre, post, hj, rfl, rfl, hq, hq0, hes, hpl, hbel⟩ := hrel
    by_cases hlt : j < n
    · obtain ⟨e, post, rfl⟩ : ∃ e r, post = e :: r := by
        cases post with
        | nil => exfalso; have := congrArg List.length hes.out; have := HL.out; have := hpl.out; simp at *; omega
        | cons e r => exact ⟨e, r, rfl⟩
      obtain ⟨b, off, e0, rfl, hbw, he, hok, c0, c1, c2, c3⟩ := HR.out.at_ hlt
      have he0 : e0 = markO q e := by
        have h1 := he.out
        rw [hes.out, markOs_append, ← hq.out, markOs, List.getElem?_append_right (by rw [markOs_length, hpl.out]; exact Nat.le_refl _), markOs_length, hpl.out, Nat.sub_self] at h1
        simpa using h1.symm
      subst he0
      have hq2 : q + 3 + e.d.n ≤ 4194304 := by
        have h1 := HK.out
        rw [hes.out, endOs_append, endOs, ← hq.out] at h1
        have := endOs_le post (q + 3 + e.d.n)
        omega
      have hen : e.d.n ≤ 2097152 := HS.out e (by rw [hes.out]; simp)
      have hbr : b < wr.heap.size := Nat.lt_of_lt_of_le hbw hbel.size
      have c0 : wr.cell? ⟨b, off + j * 4, none⟩ = some (.int .i64 (q : Int)) := (hbel.cell (p := ⟨b, off + j * 4, none⟩) hbw).trans c0
      have c1 : wr.cell? ⟨b, off + j * 4 + 1, none⟩ = some (.string (mt (q + 1))) := (hbel.cell (p := ⟨b, off + j * 4 + 1, none⟩) hbw).trans c1
      have c2 : wr.cell? ⟨b, off + j * 4 + 2, none⟩ = some (.string (mt (q + 2))) := (hbel.cell (p := ⟨b, off + j * 4 + 2, none⟩) hbw).trans c2
      have c3 : wr.cell? ⟨b, off + j * 4 + 3, none⟩ = some (.slice e.d.A e.d.n e.d.c) := (hbel.cell (p := ⟨b, off + j * 4 + 3, none⟩) hbw).trans c3
      have C0 := fun W => markText_any' (q + 1) W (by omega) (by omega)
      have C1 := fun W => markText_any' (q + 2) W (by omega) (by omega)
      have hxx : ((mt (q + 1)).toList == (mt (q + 1)).toList) = true := by simp
      have hyy : ((mt (q + 2)).toList == (mt (q + 2)).toList) = true := by simp
      generalize mt (q + 1) = x at C0 c1 hxx
      generalize mt (q + 2) = y at C1 c2 hyy
      have H := Lib.hid (fun W (h : Below w.heap.size w W) => heldB_any e.d.A e.d.n e.d.c (q + 3) W (hok.out.rd.below h) hen (by omega))
      have eq1 : ((q + 1 : Nat) : Int) = (q : Int) + 1 := by omega
      have eq2 : ((q + 2 : Nat) : Int) = (q : Int) + 1 + 1 := by omega
      have eq3 : ((q + 3 : Nat) : Int) = (q : Int) + 1 + 1 + 1 := by omega
      rw [eq1] at C0
      rw [eq2] at C1
      rw [eq3] at H
      have C := Lib.hid C0
      have D := Lib.hid C1
      have HB := Lib.hid hbel
      clear C0 C1 hbel eq1 eq2 eq3
      go_wp2
      go_region_with (go_at_call 84; ((with_reducible refine (C.out _).mono ?_)); rintro e1 w1 ⟨rfl, hb1⟩; have hcq : w1.cell? ⟨b, off + j * 4 + 1, none⟩ = some (.string x) := (hb1.cell (p := ⟨b, off + j * 4 + 1, none⟩) hbr).trans c1)
      all_goals
        have hb2 : Below w.heap.size w w1 := by first | exact HB.out.trans (hb1.mono HB.out.size) | exact HB.out.drew.trans (hb1.mono HB.out.size)
        have hc2 : w1.cell? ⟨b, off + j * 4 + 2, none⟩ = some (.string y) := (hb1.cell (p := ⟨b, off + j * 4 + 2, none⟩) hbr).trans c2
        have hc3 : w1.cell? ⟨b, off + j * 4 + 3, none⟩ = some (.slice e.d.A e.d.n e.d.c) := (hb1.cell (p := ⟨b, off + j * 4 + 3, none⟩) hbr).trans c3
        have hbr1 : b < w1.heap.size := Nat.lt_of_lt_of_le hbw hb2.size
        have HB2 := Lib.hid hb2
        clear hb2 hb1 hcq c1 c2 c3 c0
        go_wp2
        go_region_with (go_at_call 84; ((with_reducible refine (D.out _).mono ?_)); rintro e1 w2 ⟨rfl, hb3⟩; have hcq : w2.cell? ⟨b, off + j * 4 + 2, none⟩ = some (.string y) := (hb3.cell (p := ⟨b, off + j * 4 + 2, none⟩) hbr1).trans hc2)
        all_goals
          have hb4 : Below w.heap.size w w2 := by first | exact HB2.out.trans (hb3.mono HB2.out.size) | exact HB2.out.drew.trans (hb3.mono HB2.out.size) | exact HB2.out.drew.drew.trans (hb3.mono HB2.out.size)
          have hc4 : w2.cell? ⟨b, off + j * 4 + 3, none⟩ = some (.slice e.d.A e.d.n e.d.c) := (hb3.cell (p := ⟨b, off + j * 4 + 3, none⟩) hbr1).trans hc3
          go_wp2_with fail
          refine (H.out _ (by first | exact hb4 | exact hb4.drew)).mono ?_
          rintro e1 w3 ⟨rfl, rfl⟩
          go_wp2
          go_roundw
          case rel => exact ⟨j + 1, q + 3 + e.d.n, pre ++ [e], post, by omega, by go_num, rfl, Lib.hid (by rw [endOs_append, ← hq.out]; rfl), by omega, Lib.hid (by rw [hes.out]; simp), Lib.hid (by simp [hpl.out]), by first | exact hb4 | exact hb4.drew⟩
          case measure => simp [intOf]; omega
    · obtain rfl : j = n := by omega
      have hpe : post = [] := by
        have h1 := congrArg List.length hes.out
        have h2 := HL.out
        have h3 := hpl.out
        rw [List.length_append] at h1
        exact List.eq_nil_of_length_eq_zero (by omega)
      subst hpe
      go_wp2
      go_ret
      have e1 := hes.out
      rw [List.append_nil] at e1
      subst e1
      exact ⟨ret_int (by rw [hq.out]), hbel⟩
end Go.Proofs.Ytfcomnpoehpgiaa
