/- The contract of the model's function that makes operations for a law: each has one of six names and appends at most eight bytes. -/
import Derived.Test.YtejibpajjoaldaaKDrawOp
import Derived.Test.YtejibpajjoaldaaC9
namespace Go.Proofs.Ytejibpajjoaldaa
open Go.RowKit

/-- What is known of a drawn operation. -/
def OpSmall (o : OpE) : Prop := (o.nm ∈ drawnNames ∧ (o.to = ByteArray.empty ∨ o.to ∈ drawnNames)) ∧ o.d.n ≤ 8
def OpsMade (w : World) (e : Ending) (w' : World) : Prop :=
  ∃ (os : List OpE) (B : Option Addr) (d : Nat), os.length ≤ 8 ∧ e = .returned (.slice B os.length d) ∧ SlO w' B os.length os ∧ (∀ o ∈ os, OpSmall o) ∧ Below w.heap.size w w'
theorem ownB_keep {w w' : World} {lo g : Nat} {l : List Dat} (h : OwnB w lo l) (hg : w.grownBy w' (some g)) (hgb : g < lo) : OwnB w' lo l :=
  h.kept hg (fun d hd => .inr (fun e => by have := ((h.own d hd).lt g e).1; omega))

set_option maxRecDepth 10000 in
set_option maxHeartbeats 4000000 in
theorem makeOps (A : Option Addr) (n c : Nat) (xs : List Nat) (w : World) (hr : Rd w A n xs) (hn : n ≤ 1048576) :
    Calls Try.prog 9 #[.slice A n c] w (OpsMade w) := by
  obtain ⟨i0, hi, hz0, hz1, hz2⟩ := info_parts Try.infoOp
  have C1 := Lib.hid (drawNew A n c xs w hr hn)
  have HR := Lib.hid hr
  clear hr
  go_enter Try.func9, Try.ntmps9
  go_wp2_with fail
  refine C1.out.mono ?_
  rintro e w1 ⟨rfl, hsz, hcur, hb1⟩
  obtain ⟨i, h, hi9, hh, hc⟩ := hcur.cells
  have c2 : w1.cell? ⟨w.heap.size, 2, none⟩ = some (.int .i64 h) := block_cell hc 2
  have f2 := block_free hc 2
  have hw := wrap64_range (h + 17)
  have hA : 0 < n → ∀ b off sp, A = some ⟨b, off, sp⟩ → b < w.heap.size := fun hn0 b off sp e => by
    obtain ⟨b', off', e', hb, _⟩ := HR.out.lies hn0
    rw [e'] at e
    injection e with e
    injection e with e1 e2 e3
    omega
  have HC := Lib.hid (hcur.setH (wrap64 (h + 17)) hw.1 hw.2)
  have HB := Lib.hid (hb1.setCell (p := ⟨w.heap.size, 2, none⟩) (Nat.le_refl _) (.int .i64 (wrap64 (h + 17))))
  have CB := Lib.hid (fun m W (hc : Cur W w.heap.size A n c xs) (h0 : 0 < m) (hm : m ≤ 256) => drawBelow w.heap.size A n c m xs W hc h0 hm)
  have CO := Lib.hid (fun W (hc : Cur W w.heap.size A n c xs) (h : w.heap.size < W.heap.size) => drawOp w.heap.size A n c xs W hc h (fun h0 b off sp e => by have := hA h0 b off sp e; omega))
  have HA := Lib.hid hA
  clear hcur hc hb1 hw C1 hA
  go_wp2_with fail
  have hlo : w.heap.size + 1 ≤ (w1.setCell ⟨w.heap.size, 2, none⟩ (.int .i64 (wrap64 (h + 17)))).heap.size := by simp; omega
  have O1 := Lib.hid (World.ownsRow_lit (base := w.heap.size + 1) (size := 4) (e := 30) (w1.setCell ⟨w.heap.size, 2, none⟩ (.int .i64 (wrap64 (h + 17)))) #[] 0 hlo (by unfold maxLen; omega) rfl)
  have H1 := Lib.hid (HC.out.grow (below_a1 (w1.setCell ⟨w.heap.size, 2, none⟩ (.int .i64 (wrap64 (h + 17)))) (.cells #[] 30)))
  have B1 := Lib.hid (HB.out.trans ((below_a1 (w1.setCell ⟨w.heap.size, 2, none⟩ (.int .i64 (wrap64 (h + 17)))) (.cells #[] 30)).mono (by omega)))
  rw [World.size_setCell] at O1
  clear HC HB c2 f2
  refine (CB.out 9 _ H1.out (by omega) (by omega)).mono ?_
  rintro e w2 ⟨k, hk, rfl, hcu2, hg2⟩
  have H2 := Lib.hid hcu2
  have O2 := Lib.hid (own_keepG O1.out hg2 (by omega))
  have hs2 := hg2.size
  have B2 := Lib.hid (B1.out.grown hg2 B1.out.size (fun q hq => by injection hq; omega))
  have hl2 : w.heap.size + 1 ≤ w2.heap.size := by simp at hs2; omega
  clear hcu2 hg2 O1 H1 B1 hs2 hlo
  go_wp2
  go_loopw [4, 5] (fun v t wr => ∃ (j : Nat) (out : List OpE) (B : Option Addr) (d : Nat), t = .int .i64 (j : Int) ∧ out.length + j = k ∧ v = .slice B out.length d ∧ Hid (wr.ownsRow (w.heap.size + 1) 30 4 (.slice B out.length d) out.length (out.flatMap OpE.cells)) ∧ Hid (OwnB wr (w.heap.size + 1) (out.map OpE.d)) ∧ Hid (∀ o ∈ out, OpSmall o) ∧ Hid (Cur wr w.heap.size A n c xs) ∧ Hid (Below w.heap.size w wr) ∧ w.heap.size + 1 ≤ wr.heap.size) (fun _ t _ => (intOf t).toNat)
  case atStart => exact ⟨k, [], _, _, rfl, by simp, rfl, O2, Lib.hid OwnB.nil, Lib.hid (by simp), H2, B2, hl2⟩
  case round =>
    clear O2 H2 B2 hl2
    obtain ⟨j, out, B, d, rfl, hj, rfl, hown, hdat, hsm, hcu, hbel, hlw⟩ := hrel
    by_cases hj0 : 0 < j
    · have HJ := Lib.hid hj
      have hol : out.length ≤ 256 := by omega
      have hjb : j ≤ 256 := by omega
      clear hj
      go_wp2_with fail
      refine (CO.out _ hcu.out (by omega)).mono ?_
      rintro e w3 ⟨o, rfl, hon, hod, hoo, hos, hcu3, hg3⟩
      have hs3 := hg3.size
      have hone : OwnB w3 wr.heap.size [o.d] := OwnB.one (d := o.d) hoo hos
      have hall := (ownB_keep hdat.out hg3 (by omega)).append (hone.mono hlw) (apart_of_time hdat.out (Nat.le_refl _) hone (Nat.le_refl _))
      have HALL := Lib.hid hall
      have O3 := Lib.hid (own_keepG hown.out hg3 (by omega))
      have H3 := Lib.hid hcu3
      have B3 := Lib.hid (hbel.out.grown hg3 hbel.out.size (fun q hq => by injection hq; omega))
      have HSM : Hid (∀ p ∈ out ++ [o], OpSmall p) := Lib.hid (fun p hp => by
        rcases List.mem_append.1 hp with hp | hp
        · exact hsm.out p hp
        · rw [List.mem_singleton.1 hp]; exact ⟨hon, hod⟩)
      clear hone hall hown hdat hsm hcu hbel hcu3 hg3 hoo hos hon hod
      unfold OpE.v
      go_wp2_with (at_builtin; refine wpList_append_any _ rfl (.tmp 23) (.tmp 26) _ rfl (w.heap.size + 1) 30 i0 _ 4 64 Try.underlying24 hi hz0 hz1 hz2 rfl (by omega) (.slice B out.length d) out.length (out.flatMap OpE.cells) rfl (O3.out.alloc _) (w3.heap.size + 1) (some ⟨w3.heap.size, 0, none⟩) 1 1 (OpE.cells o) rfl (four_reads _ _ _ _ _ _ _ (by simp)) (OpE.cells_one _) (by simp only [maxLen]; omega) (by omega) (by simp; omega) ?_; intro v4 w4 hown4 hg4 hat4)
      obtain ⟨P4, c4, rfl⟩ := own_formK hown4
      have hrow := own_below O3.out (below_a1 w3 (.cells #[.int .i64 o.kind, .string o.nm, .string o.to, .slice o.d.A o.d.n o.d.c] 30))
      have HROW := Lib.hid (fun q (hq : (Value.slice B out.length d).ownBlock = some q) => (O3.out.lt q hq).1)
      have HALL4 : Hid (OwnB w4 (w.heap.size + 1) ((out ++ [o]).map OpE.d)) := Lib.hid (by
        rw [List.map_append]
        exact (HALL.out.below (below_a1 w3 (.cells #[.int .i64 o.kind, .string o.nm, .string o.to, .slice o.d.A o.d.n o.d.c] 30))).grow hrow (by decide) hg4)
      have O4 : Hid (w4.ownsRow (w.heap.size + 1) 30 4 (.slice P4 (out ++ [o]).length c4) (out ++ [o]).length ((out ++ [o]).flatMap OpE.cells)) := Lib.hid (by
        rw [List.length_append, List.flatMap_append]
        simpa using hown4)
      have H4 := Lib.hid ((H3.out.grow (below_a1 w3 (.cells #[.int .i64 o.kind, .string o.nm, .string o.to, .slice o.d.A o.d.n o.d.c] 30))).far (B := w.heap.size + 1) hg4 HROW.out (by omega) (fun h0 b off sp e => by have := HA.out h0 b off sp e; omega))
      have B4 := Lib.hid (((B3.out.trans ((below_a1 w3 (.cells #[.int .i64 o.kind, .string o.nm, .string o.to, .slice o.d.A o.d.n o.d.c] 30)).mono B3.out.size))).grown hg4 (by have := B3.out.size; simp; omega) (fun q hq => by have := HROW.out q hq; omega))
      have hl4 : w.heap.size + 1 ≤ w4.heap.size := by have := hg4.size; simp at this; omega
      clear hrow HROW hown4 hg4 hat4 O3 H3 B3 HALL
      obtain ⟨jj, HJJ⟩ : ∃ jj, Hid (j = jj + 1) := ⟨j - 1, Lib.hid (by omega)⟩
      go_wp2
      go_roundw
      case rel => exact ⟨jj, out ++ [o], P4, c4, by have := HJJ.out; subst this; go_num, by have := HJJ.out; have := HJ.out; simp; omega, by simp, O4, HALL4, HSM, H4, B4, hl4⟩
      case measure => (have := HJJ.out; simp [intOf]; omega)
    · obtain rfl : j = 0 := by omega
      have HS : Hid (SlO wr B out.length out) := Lib.hid ⟨rfl, Row.of_own hown.out, fun o ho => hdat.out.ok o.d (List.mem_map.2 ⟨o, ho, rfl⟩)⟩
      go_wp2
      go_ret
      exact ⟨out, B, d, by omega, rfl, HS.out, hsm.out, hbel.out⟩
end Go.Proofs.Ytejibpajjoaldaa
