/- The contracts of the draws behind FnFrames: a number below a bound; a frame; some frames. -/
import Derived.Test.YtmlfhjkogcabiaaDraw
import Derived.Test.YtmlfhjkogcabiaaFrsLaw
namespace Go.Proofs.Ytmlfhjkogcabiaa
open Go.RowKit

theorem Cur.setH {w : World} {g : Nat} {A : Option Addr} {n c : Nat} {xs : List Nat} (h : Cur w g A n c xs) (z : Int) (h1 : -9223372036854775808 ≤ z) (h2 : z ≤ 9223372036854775807) : Cur (w.setCell ⟨g, 2, none⟩ (.int .i64 z)) g A n c xs := by
  obtain ⟨hrd, hn, hne, i, hh, hi, hr, hc⟩ := h
  exact ⟨hrd.other0 (row := some g) (grown_setAt (World.grownBy.refl _ _) 2 _) (fun hn0 b off sp e he => hne hn0 b off sp e (by injection he)), hn, hne, i, z, hi, ⟨h1, h2⟩, block_set hc 2 _⟩

set_option maxRecDepth 10000 in
theorem makeNum (A : Option Addr) (n c m : Nat) (xs : List Nat) (w : World) (hr : Rd w A n xs) (hn : n ≤ 1048576) (h0 : 0 < m) (hm : m ≤ 256) :
    Calls Try.prog 20 #[.slice A n c, .int .i64 (m : Int)] w fun e w' => ∃ x : Nat, x < m ∧ e = .returned (.int .i64 (x : Int)) ∧ Below w.heap.size w w' := by
  have C1 := Lib.hid (drawNew A n c xs w hr hn)
  clear hr
  go_enter Try.func20, Try.ntmps20
  go_wp2_with fail
  refine C1.out.mono ?_
  rintro e w1 ⟨rfl, hsz, hcur, hb1⟩
  obtain ⟨i, h, hi, hh, hc⟩ := hcur.cells
  have c2 : w1.cell? ⟨w.heap.size, 2, none⟩ = some (.int .i64 h) := block_cell hc 2
  have f2 := block_free hc 2
  have hw := wrap64_range (h + 777)
  have HC := Lib.hid (hcur.setH (wrap64 (h + 777)) hw.1 hw.2)
  have HB := Lib.hid (hb1.setCell (p := ⟨w.heap.size, 2, none⟩) (Nat.le_refl _) (.int .i64 (wrap64 (h + 777))))
  clear hcur hc hb1 hw
  go_wp2_with fail
  refine (drawBelow w.heap.size A n c m xs _ HC.out h0 hm).mono ?_
  rintro e w2 ⟨x, hx, rfl, hcu2, hgr⟩
  go_wp2
  go_ret
  exact ⟨x, hx, rfl, HB.out.grown hgr HB.out.size (fun k hk => by injection hk; omega)⟩

def FrDraw (w : World) (g : Nat) (A : Option Addr) (n c : Nat) (xs : List Nat) (e : Ending) (w' : World) : Prop :=
  ∃ (kind : Int) (ys : List Nat) (B : Option Addr) (d : Nat), FrGood (kind, ys) ∧ ys.length ≤ 9 ∧ e = .returned (.agg #[.int .i64 kind, .slice B ys.length d]) ∧ w'.ownsRow w.heap.size 5 1 (.slice B ys.length d) ys.length (vb ys) ∧ Cur w' g A n c xs ∧ w.grownBy w' (some g)

set_option maxRecDepth 10000 in
set_option maxHeartbeats 1000000 in
theorem drawFrame (g : Nat) (A : Option Addr) (n c : Nat) (xs : List Nat) (w : World) (hcur : Cur w g A n c xs) (hg : g < w.heap.size) (hA : 0 < n → ∀ b off sp, A = some ⟨b, off, sp⟩ → b < w.heap.size) :
    Calls Try.prog 48 #[.pointer (some ⟨g, 0, none⟩)] w (FrDraw w g A n c xs) := by
  have hb0 := below_a1 w (.cells #[.int .i64 0, .slice none 0 0] 45)
  have C := Lib.hid (drawBelow g A n c 3 xs _ (hcur.grow hb0) (by omega) (by omega))
  have HA := Lib.hid hA
  clear hcur hA
  go_enter Try.func48, Try.ntmps48
  go_wp2_with fail
  refine C.out.mono ?_
  rintro e w1 ⟨k, hk, rfl, hcu1, hg1⟩
  have hs1 := hg1.size
  rw [World.size_alloc] at hs1
  have X1 := Lib.hid (((Box2.new w (.int .i64 0) (.slice none 0 0) 45)).keep hg1.size (hg1.block w.heap.size (by simp) (fun h => by injection h; omega)))
  have F1 : Hid (∀ j, w1.frozen? ⟨w.heap.size, j, none⟩ = false) := Lib.hid (fun j => (World.frozen?_of_block (a := ⟨w.heap.size, j, none⟩) (hg1.block w.heap.size (by simp) (fun h => by injection h; omega))).trans (by simp))
  have HG1 := Lib.hid (grownBy_trans (grownBy_of_below hb0 (some g)) hg1)
  have CB := Lib.hid (drawBytes g A n c 9 xs w1 hcu1 (by omega) (by omega) (fun h b off sp e => by have := HA.out h b off sp e; omega))
  clear hcu1 hg1 hb0
  go_wp2_with fail
  refine CB.out.mono ?_
  rintro e w2 ⟨ys, B, d, hyl, hsm, rfl, hown, hcu2, hg2⟩
  have hs2 := hg2.size
  have X2 := Lib.hid (X1.out.keep hg2.size (hg2.block w.heap.size X1.out.lt (fun h => by injection h; omega)))
  have f0 : w2.frozen? ⟨w.heap.size, 0, none⟩ = false := (World.frozen?_of_block (a := ⟨w.heap.size, 0, none⟩) (hg2.block w.heap.size X1.out.lt (fun h => by injection h; omega))).trans (F1.out 0)
  have f1 : w2.frozen? ⟨w.heap.size, 1, none⟩ = false := (World.frozen?_of_block (a := ⟨w.heap.size, 1, none⟩) (hg2.block w.heap.size X1.out.lt (fun h => by injection h; omega))).trans (F1.out 1)
  obtain ⟨l0, x0, x1⟩ := X2.out
  have HO := Lib.hid hown
  have HC2 := Lib.hid hcu2
  have HG2 := Lib.hid (grownBy_trans HG1.out hg2)
  have HS := Lib.hid hsm
  clear hown hcu2 hg2 hsm
  go_wp2
  refine bodyPost_ret (v := .agg #[.int .i64 ((k : Int) + 1), .slice B ys.length d]) (by simp [results, Try.results48, go_sem, x0, x1, Int.add_comm]) rfl ?_
  have s1 : w2.grownBy (w2.setCell ⟨w.heap.size, 0, none⟩ (.int .i64 (1 + (k : Int)))) (some w.heap.size) := grown_setAt (World.grownBy.refl _ _) 0 _
  have s2 : w2.grownBy ((w2.setCell ⟨w.heap.size, 0, none⟩ (.int .i64 (1 + (k : Int)))).setCell ⟨w.heap.size, 1, none⟩ (.slice B ys.length d)) (some w.heap.size) := grown_setAt s1 1 _
  refine ⟨(k : Int) + 1, ys, B, d, ⟨by simp only; omega, by simp only; omega, by simp only; omega, HS.out⟩, hyl, rfl, ?_, ?_, ?_⟩
  · exact base_row (low_row (low_row HO.out (by simp; omega) _) (by simp; omega) _) (by omega)
  · exact HC2.out.far (B := w.heap.size) s2 (fun j hj => by injection hj; omega) hg HA.out
  · exact grownBy_far HG2.out s2 (fun j hj => by injection hj; omega)

def FrsDraw (w : World) (e : Ending) (w' : World) : Prop :=
  ∃ (A : Option Addr) (c : Nat) (es : List FrE), e = .returned (.slice A es.length c) ∧ es.length ≤ 4 ∧ (∀ x ∈ es, FrGood x.fr ∧ x.fr.2.length ≤ 9) ∧ SlR w' A es.length es ∧ Below w.heap.size w w'

set_option maxRecDepth 10000 in
set_option maxHeartbeats 2000000 in
theorem makeFrames (A : Option Addr) (n c : Nat) (xs : List Nat) (w : World) (hr : Rd w A n xs) (hn : n ≤ 1048576) :
    Calls Try.prog 17 #[.slice A n c] w (FrsDraw w) := by
  obtain ⟨i0, hi, hz0, hz1, hz2⟩ := info_parts Try.infoFrame
  have C1 := Lib.hid (drawNew A n c xs w hr hn)
  have HA : Hid (0 < n → ∀ b off sp, A = some ⟨b, off, sp⟩ → b < w.heap.size) := Lib.hid (fun hn0 b off sp e => by
    obtain ⟨b', off', e', hb, _⟩ := hr.lies hn0
    rw [e'] at e
    injection e with e
    injection e with e1 e2 e3
    omega)
  clear hr
  go_enter Try.func17, Try.ntmps17
  go_wp2_with fail
  refine C1.out.mono ?_
  rintro e w1 ⟨rfl, hsz, hcur, hb1⟩
  have hbA := below_a1 w1 (.cells #[] 45)
  have O1 := Lib.hid (own_mono (lo' := w.heap.size + 1) (fr_built w1) hsz)
  have CB := Lib.hid (drawBelow w.heap.size A n c 5 xs _ (hcur.grow hbA) (by omega) (by omega))
  have HB1 := Lib.hid (fr_chain hb1 hbA)
  have hg1 : w.heap.size + 1 ≤ w1.heap.size := hsz
  clear hcur hb1 hbA
  go_wp2_with fail
  refine CB.out.mono ?_
  rintro e w2 ⟨k, hk, rfl, hcu2, hg2⟩
  have O2 := Lib.hid (O1.out.kept hg2 (.inr (fun e => by have := (O1.out.lt _ e).1; omega)))
  have HC2 := Lib.hid hcu2
  have HB2 := Lib.hid (HB1.out.grown hg2 HB1.out.size (fun j hj => by injection hj; omega))
  have hs2 : w.heap.size + 1 ≤ w2.heap.size := by have := hg2.size; rw [World.size_alloc] at this; omega
  clear hcu2 hg2 O1 HB1
  go_wp2
  go_loopw [4, 5] (fun v p wr => ∃ (j : Nat) (es : List FrE), p = .int .i64 (j : Int) ∧ es.length + j ≤ 4 ∧ Hid (∀ x ∈ es, FrGood x.fr ∧ x.fr.2.length ≤ 9) ∧ Hid (wr.ownsRow (w.heap.size + 1) 45 2 v es.length (es.flatMap FrE.cells)) ∧ Hid (OwnB wr (w.heap.size + 1) (es.map FrE.d)) ∧ Hid (Cur wr w.heap.size A n c xs) ∧ Hid (Below w.heap.size w wr) ∧ w.heap.size + 1 ≤ wr.heap.size) (fun _ p _ => (intOf p).toNat)
  case atStart => exact ⟨k, [], rfl, by simp; omega, Lib.hid (by simp), O2, Lib.hid OwnB.nil, HC2, HB2, hs2⟩
  case round =>
    clear O2 HC2 HB2 hs2
    obtain ⟨j, es, rfl, hj, hgood, hown, hdat, hcur, hbel, hsz2⟩ := hrel
    by_cases hlt : 0 < j
    · have hlt' : (0 : Int) < (j : Int) := by omega
      have CF := Lib.hid (drawFrame w.heap.size A n c xs wr hcur.out (by omega) (fun h b off sp e => by have := HA.out h b off sp e; omega))
      go_wp2_with fail
      refine CF.out.mono ?_
      rintro e w3 ⟨kind, ys, B, d, hfg, hyl, rfl, ho3, hcu3, hg3⟩
      have HR3 := Lib.hid (hown.out.kept hg3 (.inr (fun e => by have := (hown.out.lt _ e).1; omega)))
      have HD3 := Lib.hid (hdat.out.kept hg3 (fun q hq => .inr (fun e => by have := (hdat.out.lt hq _ e).1; omega)))
      have HO3 := Lib.hid ho3
      have HC3 := Lib.hid hcu3
      have HB3 := Lib.hid (hbel.out.grown hg3 hbel.out.size (fun q hq => by injection hq; omega))
      have HFG := Lib.hid hfg
      have hs3 := hg3.size
      clear ho3 hcu3 hg3 hfg
      go_wp2_with (at_builtin; refine wpList_append_any _ rfl (.tmp 15) (.tmp 18) 42 rfl (w.heap.size + 1) 45 i0 _ 2 32 Try.underlying42 hi hz0 hz1 hz2 rfl (by omega) _ es.length (es.flatMap FrE.cells) rfl (HR3.out.alloc _) (w3.heap.size + 1) (some ⟨w3.heap.size, 0, none⟩) 1 1 [.int .i64 kind, .slice B ys.length d] rfl (fr_two _ _ _ _ _ rfl) (FrE.cells_one ⟨kind, ⟨B, ys.length, d, ys⟩⟩) (by simp only [maxLen]; omega) (by omega) (by simp; omega) ?_; intro v4 w4 hown4 hg4 hat4)
      go_roundw
      case rel =>
        have hb3 := below_a1 w3 (.cells #[.int .i64 kind, .slice B ys.length d] 45)
        have hone : OwnB w3 wr.heap.size [⟨B, ys.length, d, ys⟩] := OwnB.one (d := ⟨B, ys.length, d, ys⟩) HO3.out HFG.out.small
        have hall := HD3.out.append (hone.mono hsz2) (apart_of_time hdat.out (Nat.le_refl _) hone (Nat.le_refl _))
        have hrow := own_below HR3.out hb3
        have hall2 := fr_grow (hall.below hb3) hrow (by decide) hg4
        refine ⟨j - 1, es ++ [⟨kind, ⟨B, ys.length, d, ys⟩⟩], by go_num, by simp; omega, Lib.hid ?_, Lib.hid (by rw [flat_snoc, List.length_append]; exact hown4), Lib.hid (by rw [List.map_append]; exact hall2), Lib.hid ?_, Lib.hid ?_, ?_⟩
        · intro x hx
          rcases List.mem_append.1 hx with hx | hx
          · exact hgood.out x hx
          · simp at hx; subst hx; exact ⟨HFG.out, hyl⟩
        · exact (HC3.out.grow hb3).far (B := w.heap.size + 1) hg4 (fun q hq => (hrow.lt q hq).1) (by omega) (fun h b off sp e => by have := HA.out h b off sp e; omega)
        · exact (fr_chain HB3.out hb3).grown hg4 (by simp; omega) (fun q hq => by have := (hrow.lt q hq).1; omega)
        · have := hg4.size; simp at this; omega
      case measure => simp [intOf]; omega
    · obtain rfl : j = 0 := by omega
      obtain ⟨A4, c4, rfl⟩ := fr_form hown.out
      go_wp2
      go_ret
      exact ⟨A4, c4, es, rfl, by omega, hgood.out, ⟨rfl, Row.of_own hown.out, fun e he => hdat.out.ok _ (List.mem_map.2 ⟨e, he, rfl⟩)⟩, hbel.out⟩
end Go.Proofs.Ytmlfhjkogcabiaa
