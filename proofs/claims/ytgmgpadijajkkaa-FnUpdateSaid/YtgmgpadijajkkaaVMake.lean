/- The contract of MakeViews: a job, two small numbers and at most six views, all in their limits. Condition: at most 2^20 bytes. -/
import Derived.Test.YtgmgpadijajkkaaVDraw
import Derived.Test.YtgmgpadijajkkaaLab
import Derived.Deep.RegionHeld3
namespace Go.Proofs.Ytgmgpadijajkkaa
open Go.RowKit

theorem v_reads (w : World) (e : VE) (t : TypeId) (g : Nat) (hg : g = w.heap.size) : Reads (w.alloc (.cells #[.bool e.i, .bool e.o, .int .i64 e.w, .int .i64 e.v] t)) (g + 1) 4 (some ⟨g, 0, none⟩) 1 (VE.cells e) := by
  subst hg
  refine ⟨rfl, fun _ => ⟨_, rfl, by simp, fun j x hj => ?_⟩⟩
  match j, hj with
  | 0, hj => simp [VE.cells] at hj; subst hj; simp [Addr.add]
  | 1, hj => simp [VE.cells] at hj; subst hj; simp [Addr.add]
  | 2, hj => simp [VE.cells] at hj; subst hj; simp [Addr.add]
  | 3, hj => simp [VE.cells] at hj; subst hj; simp [Addr.add]
theorem v_built (w : World) : (w.alloc (.cells #[] 32)).ownsRow w.heap.size 32 4 (.slice (some ⟨w.heap.size, 0, none⟩) 0 0) 0 [] :=
  World.ownsRow_lit w #[] 0 (Nat.le_refl _) (by unfold maxLen; omega) rfl
/-- What a law is told of what is drawn for it. -/
def VMade (w : World) (e : Ending) (w' : World) : Prop :=
  ∃ (p s : Int) (v x : Nat) (es : List VE) (B : Option Addr) (d : Nat), (1 ≤ p ∧ p ≤ 4) ∧ v < 9 ∧ x < 9 ∧ es.length ≤ 6 ∧ (∀ e ∈ es, e.ok = true) ∧ e = .returned (.tuple #[.agg #[.int .i64 p, .int .i64 s], .int .i64 (v : Int), .int .i64 (x : Int), .slice B es.length d]) ∧ SlV w' B es.length es ∧ Below w.heap.size w w'
/-- What stands while the views are drawn. -/
structure VSt (w W : World) (jb : Nat) (p s : Int) (A : Option Addr) (n c : Nat) (xs : List Nat) (es : List VE) (B : Option Addr) (d : Nat) : Prop where
  t2 : Blk W w.heap.size #[.int .i64 0, .int .i64 0] 24
  j7 : Blk W jb #[.int .i64 p, .int .i64 s] 24
  o : W.ownsRow (jb + 1) 32 4 (.slice B es.length d) es.length (es.flatMap VE.cells)
  cu : Cur W (w.heap.size + 1) A n c xs
  h : Below w.heap.size w W
  ok : ∀ e ∈ es, e.ok = true
  lt : w.heap.size + 1 < jb
theorem VSt.drew {w W : World} {jb : Nat} {p s : Int} {A : Option Addr} {n c : Nat} {xs : List Nat} {es : List VE} {B : Option Addr} {d : Nat} (h : VSt w W jb p s A n c xs es B d) : VSt w W.drew jb p s A n c xs es B d :=
  ⟨h.t2.drew, h.j7.drew, own_below h.o (Below.refl _ _).drew, h.cu.grow (Below.refl _ _).drew, h.h.drew, h.ok, h.lt⟩
theorem VSt.call {w W W' : World} {jb : Nat} {p s : Int} {A : Option Addr} {n c : Nat} {xs : List Nat} {es : List VE} {B : Option Addr} {d : Nat} (h : VSt w W jb p s A n c xs es B d) (hc : Cur W' (w.heap.size + 1) A n c xs) (hg : W.grownBy W' (some (w.heap.size + 1))) : VSt w W' jb p s A n c xs es B d :=
  ⟨h.t2.grown hg (fun e => by injection e; omega), h.j7.grown hg (fun e => by have := h.lt; injection e; omega), own_keepG h.o hg (by have := h.lt; omega), hc, h.h.grown hg h.h.size (fun q hq => by injection hq with hq; omega), h.ok, h.lt⟩

set_option maxRecDepth 10000 in
set_option maxHeartbeats 8000000 in
theorem makeViews (A : Option Addr) (n c : Nat) (xs : List Nat) (w : World) (hr : Rd w A n xs) (hn : n ≤ 1048576) :
    Calls Try.prog 9 #[.slice A n c] w (VMade w) := by
  obtain ⟨i0, hi, hz0, hz1, hz2⟩ := info_parts Try.infoView
  have C1 := Lib.hid (drawNew A n c xs (w.alloc (.cells #[.int .i64 0, .int .i64 0] 24)) (hr.below (below_a1 _ _)) hn)
  have HA : Hid (0 < n → ∀ b off sp, A = some ⟨b, off, sp⟩ → b < w.heap.size) := Lib.hid (fun h b off sp e => by
    obtain ⟨b', off', e', hb, _⟩ := hr.lies h
    rw [e'] at e
    injection e with e
    injection e with e1 e2 e3
    omega)
  have T0 := Lib.hid (Blk.new w #[.int .i64 0, .int .i64 0] 24)
  clear hr
  go_enter Try.func9, Try.ntmps9
  go_wp2_with fail
  refine C1.out.mono ?_
  rintro e w1 ⟨rfl, hs1, hcu1, hb1⟩
  simp only [World.size_alloc] at hs1 hcu1
  have T1 := Lib.hid (T0.out.below hb1)
  have H1 := Lib.hid (g_chain (below_a1 w _) hb1)
  have Q1 := Lib.hid hcu1
  clear hb1 hcu1 T0
  go_wp2_with fail
  refine (drawJob (w.heap.size + 1) A n c xs w1 Q1.out (by omega) (fun h b off sp e => by have := HA.out h b off sp e; omega)).mono ?_
  rintro e w2 ⟨p, s, hp, rfl, hcu2, hgr2⟩
  have hs2 := hgr2.size
  have HP := Lib.hid hp
  have T2 := Lib.hid ((T1.out.grown hgr2 (fun e => by injection e; omega)).alloc (.cells #[.int .i64 p, .int .i64 s] 24))
  have J2 := Lib.hid (Blk.new w2 #[.int .i64 p, .int .i64 s] 24)
  have H2 := Lib.hid (g_chain (H1.out.grown hgr2 H1.out.size (fun q hq => by injection hq with hq; omega)) (below_a1 w2 (.cells #[.int .i64 p, .int .i64 s] 24)))
  have Q2 := Lib.hid (hcu2.grow (below_a1 w2 (.cells #[.int .i64 p, .int .i64 s] 24)))
  clear hcu2 hgr2 T1 H1 Q1 hp
  have C9 : Hid (∀ W, Cur W (w.heap.size + 1) A n c xs → Calls Try.prog 30 #[.pointer (some ⟨w.heap.size + 1, 0, none⟩), .int .i64 9] W (BelowRes W (w.heap.size + 1) A n c xs 9)) := Lib.hid (fun W h => drawBelow (w.heap.size + 1) A n c 9 xs W h (by omega) (by omega))
  have C7 : Hid (∀ W, Cur W (w.heap.size + 1) A n c xs → Calls Try.prog 30 #[.pointer (some ⟨w.heap.size + 1, 0, none⟩), .int .i64 7] W (BelowRes W (w.heap.size + 1) A n c xs 7)) := Lib.hid (fun W h => drawBelow (w.heap.size + 1) A n c 7 xs W h (by omega) (by omega))
  have CW := Lib.hid (fun W (h : Cur W (w.heap.size + 1) A n c xs) (h2 : w.heap.size + 1 < W.heap.size) => drawView p (w.heap.size + 1) A n c xs W h h2 (fun h b off sp e => by have := HA.out h b off sp e; omega))
  have hlt12 : w.heap.size + 1 < w2.heap.size := by omega
  have EB := below_a1 (w2.alloc (.cells #[.int .i64 p, .int .i64 s] 24)) (.cells #[] 32)
  have O3 := v_built (w2.alloc (.cells #[.int .i64 p, .int .i64 s] 24))
  rw [World.size_alloc] at O3
  have ST := Lib.hid (VSt.mk (w := w) (es := []) (T2.out.below EB) (J2.out.below EB) O3 (Q2.out.grow EB) (g_chain H2.out EB) (by simp) hlt12)
  clear EB O3 T2 J2 H2 Q2
  go_wp2_with fail
  refine (C7.out _ ST.out.cu).mono ?_
  rintro e w3 ⟨k, hk, rfl, hcu, hgr⟩
  have S3 := Lib.hid (ST.out.call hcu hgr)
  clear hcu hgr ST C7
  go_wp2
  go_loopw [8, 9] (fun v t wr => ∃ (j : Nat) (es : List VE) (B : Option Addr) (d : Nat), t = .int .i64 (j : Int) ∧ es.length + j = k ∧ v = .slice B es.length d ∧ Hid (VSt w wr w2.heap.size p s A n c xs es B d)) (fun _ t _ => (intOf t).toNat)
  case atStart => exact ⟨k, [], _, _, rfl, by simp, rfl, S3⟩
  case round =>
    clear S3
    obtain ⟨j, es, B, d, rfl, hj, rfl, HS⟩ := hrel
    by_cases hj0 : 0 < j
    · have HJ := Lib.hid hj
      have hes : es.length ≤ 256 := by omega
      have hjb : j ≤ 256 := by omega
      have hw : w2.heap.size < wr.heap.size := HS.out.j7.lt
      have c0 := HS.out.j7.cell (i := 0) rfl
      clear hj
      go_wp2_with fail
      refine (CW.out _ HS.out.cu (by omega)).mono ?_
      rintro e w4 ⟨r, hok, rfl, hcu, hgr⟩
      have S4 := Lib.hid (HS.out.call hcu hgr)
      have hs4 := hgr.size
      have HOK := Lib.hid hok
      clear hcu hgr HS c0 hok
      have hrow : ∀ q, (Value.slice B es.length d).ownBlock = some q → w2.heap.size + 1 ≤ q := fun q hq => (S4.out.o.lt q hq).1
      have HR := Lib.hid hrow
      clear hrow
      unfold VE.val
      have BX := Lib.hid (below_a1 w4 (.cells #[.bool r.i, .bool r.o, .int .i64 r.w, .int .i64 r.v] 32))
      go_wp2_with (at_builtin; refine wpList_append_any _ rfl (.tmp 21) (.tmp 26) _ rfl (w2.heap.size + 1) 32 i0 _ 4 24 Try.underlying25 hi hz0 hz1 hz2 rfl (by omega) (.slice B es.length d) es.length (es.flatMap VE.cells) rfl (own_below S4.out.o BX.out) (w4.heap.size + 1) (some ⟨w4.heap.size, 0, none⟩) 1 1 (VE.cells r) rfl (v_reads _ _ _ _ rfl) (VE.cells_one r) (by simp only [maxLen]; omega) (by omega) (by simp; omega) ?_; intro v3 w5 hown5 hg5 hat5)
      obtain ⟨P3, cc3, rfl⟩ := lab_form hown5
      have O5 : Hid (w5.ownsRow (w2.heap.size + 1) 32 4 (.slice P3 (es ++ [r]).length cc3) (es ++ [r]).length ((es ++ [r]).flatMap VE.cells)) := Lib.hid (by
        rw [List.length_append, List.flatMap_append]
        simpa using hown5)
      have S5 : Hid (VSt w w5 w2.heap.size p s A n c xs (es ++ [r]) P3 cc3) := Lib.hid ⟨(S4.out.t2.below BX.out).grown hg5 (fun e => by have := HR.out _ e; omega), (S4.out.j7.below BX.out).grown hg5 (fun e => by have := HR.out _ e; omega), O5.out, (S4.out.cu.grow BX.out).far hg5 HR.out (by omega) (fun h b off sp e => by have := HA.out h b off sp e; omega), (g_chain S4.out.h BX.out).grown hg5 (g_chain S4.out.h BX.out).size (fun q hq => by have := HR.out q hq; omega), (fun a ha => by
        rcases List.mem_append.1 ha with ha | ha
        · exact S4.out.ok a ha
        · rw [List.mem_singleton.1 ha]; exact HOK.out), S4.out.lt⟩
      clear hown5 hg5 hat5 S4 HR O5 BX
      obtain ⟨jj, HJJ⟩ : ∃ jj, Hid (j = jj + 1) := ⟨j - 1, Lib.hid (by omega)⟩
      go_wp2
      go_roundw
      case rel => exact ⟨jj, es ++ [r], P3, cc3, by have := HJJ.out; subst this; go_num, by have := HJJ.out; have := HJ.out; simp; omega, by simp, S5⟩
      case measure => (have := HJJ.out; simp [intOf]; omega)
    · obtain rfl : j = 0 := by omega
      have hes6 : es.length ≤ 6 := by omega
      have SD := Lib.hid HS.out.drew
      clear HS
      go_wp2
      refine wp_region_any (by kernel_rfl) ?_
      change wpAny _ _ _ _ _ _ _ (World.drew _)
      generalize World.drew wr = wd at *
      refine wpAny_of_held (S := (fun W : World => W.cell? ⟨w2.heap.size, 0, none⟩ = some (.int .i64 p) ∧ W.cell? ⟨w2.heap.size, 1, none⟩ = some (.int .i64 s))) _ _ _ _ ?_
      refine wpAnyH_take (i := 0) (oi := ⟨_, _, _, _, _, _⟩) (v := .agg #[.int .i64 p, .int .i64 s]) rfl (by kernel_rfl) (by kernel_rfl) (by kernel_rfl) (fun _ _ _ h => h) (Or.inl ⟨by kernel_rfl, fun W hS => by (obtain ⟨r0, r1⟩ := hS); go_simp⟩) ⟨SD.out.j7.cell (i := 0) rfl, SD.out.j7.cell (i := 1) rfl⟩ ?_
      (try simp only [Act.put, List.setIfInBounds_toArray, List.set_cons_zero, List.set_cons_succ])
      refine wpAnyH_take (i := 1) (oi := ⟨_, _, _, _, _, _⟩) (v := .pointer (some ⟨w.heap.size + 1, 0, none⟩)) rfl (by kernel_rfl) (by kernel_rfl) (by kernel_rfl) (fun _ _ _ h => h) (Or.inl ⟨by kernel_rfl, fun W hS => by (obtain ⟨r0, r1⟩ := hS); go_simp⟩) ⟨SD.out.j7.cell (i := 0) rfl, SD.out.j7.cell (i := 1) rfl⟩ ?_
      (try simp only [Act.put, List.setIfInBounds_toArray, List.set_cons_zero, List.set_cons_succ])
      refine wpAnyH_take (i := 3) (oi := ⟨_, _, _, _, _, _⟩) (v := .pointer (some ⟨w.heap.size + 1, 0, none⟩)) rfl (by kernel_rfl) (by kernel_rfl) (by kernel_rfl) (fun _ _ _ h => h) (Or.inl ⟨by kernel_rfl, fun W hS => by (obtain ⟨r0, r1⟩ := hS); go_simp⟩) ⟨SD.out.j7.cell (i := 0) rfl, SD.out.j7.cell (i := 1) rfl⟩ ?_
      (try simp only [Act.put, List.setIfInBounds_toArray, List.set_cons_zero, List.set_cons_succ])
      refine wpAnyH_take (i := 5) (oi := ⟨_, _, _, _, _, _⟩) (v := .slice B es.length d) rfl (by kernel_rfl) (by kernel_rfl) (by kernel_rfl) (fun _ _ _ h => h) (Or.inl ⟨by kernel_rfl, fun W hS => by (obtain ⟨r0, r1⟩ := hS); go_simp⟩) ⟨SD.out.j7.cell (i := 0) rfl, SD.out.j7.cell (i := 1) rfl⟩ ?_
      (try simp only [Act.put, List.setIfInBounds_toArray, List.set_cons_zero, List.set_cons_succ])
      refine wpAnyH_ready (rs := [2]) (by kernel_rfl) (by simp) (AllReadyH.cons rfl (fun K hK => ?_) AllReadyH.nil)
      go_simp
      go_at_call 30
      refine (C9.out _ SD.out.cu).mono ?_
      rintro e wa ⟨v, hv, rfl, hcu, hgr⟩
      have SA := Lib.hid (SD.out.call hcu hgr)
      clear hcu hgr SD
      dsimp only
      refine hK.out _ _ ⟨SA.out.j7.cell (i := 0) rfl, SA.out.j7.cell (i := 1) rfl⟩ (fun _ => ?_)
      clear hK K
      (try simp only [Act.put, List.setIfInBounds_toArray, List.set_cons_zero, List.set_cons_succ])
      refine wpAnyH_ready (rs := [4]) (by kernel_rfl) (by simp) (AllReadyH.cons rfl (fun K hK => ?_) AllReadyH.nil)
      go_simp
      go_at_call 30
      refine (C9.out _ SA.out.cu).mono ?_
      rintro e wb ⟨x, hx, rfl, hcu, hgr⟩
      have SB := Lib.hid (SA.out.call hcu hgr)
      clear hcu hgr SA
      dsimp only
      refine hK.out _ _ ⟨SB.out.j7.cell (i := 0) rfl, SB.out.j7.cell (i := 1) rfl⟩ (fun _ => ?_)
      clear hK K
      (try simp only [Act.put, List.setIfInBounds_toArray, List.set_cons_zero, List.set_cons_succ])
      have t0 := SB.out.t2.cell (i := 0) rfl
      have t1 := SB.out.t2.cell (i := 1) rfl
      have t2 := SB.out.t2.frozen 0
      have t3 := SB.out.t2.frozen 1
      have hne : w2.heap.size ≠ w.heap.size := by have := SB.out.lt; omega
      have JS := Lib.hid ((SB.out.j7.other (p := ⟨w.heap.size, 0, none⟩) hne (.int .i64 p)).other (p := ⟨w.heap.size, 1, none⟩) hne (.int .i64 s))
      refine wpAnyH_ready (rs := [6]) (by kernel_rfl) (by simp) (AllReadyH.cons rfl (fun K hK => ?_) AllReadyH.nil)
      go_simp
      refine hK.out _ _ ⟨JS.out.cell (i := 0) rfl, JS.out.cell (i := 1) rfl⟩ (fun _ => ?_)
      clear hK K
      (try simp only [Act.put, List.setIfInBounds_toArray, List.set_cons_zero, List.set_cons_succ])
      refine wpAnyH_take (i := 7) (oi := ⟨_, _, _, _, _, _⟩) (v := .int .i64 (v : Int)) rfl (by kernel_rfl) (by kernel_rfl) (by kernel_rfl) (fun _ _ _ h => h) (Or.inl ⟨by kernel_rfl, fun W hS => by (obtain ⟨r0, r1⟩ := hS); go_simp⟩) ⟨JS.out.cell (i := 0) rfl, JS.out.cell (i := 1) rfl⟩ ?_
      (try simp only [Act.put, List.setIfInBounds_toArray, List.set_cons_zero, List.set_cons_succ])
      refine wpAnyH_take (i := 8) (oi := ⟨_, _, _, _, _, _⟩) (v := .int .i64 (x : Int)) rfl (by kernel_rfl) (by kernel_rfl) (by kernel_rfl) (fun _ _ _ h => h) (Or.inl ⟨by kernel_rfl, fun W hS => by (obtain ⟨r0, r1⟩ := hS); go_simp⟩) ⟨JS.out.cell (i := 0) rfl, JS.out.cell (i := 1) rfl⟩ ?_
      (try simp only [Act.put, List.setIfInBounds_toArray, List.set_cons_zero, List.set_cons_succ])
      refine wpAnyH_take (i := 9) (oi := ⟨_, _, _, _, _, _⟩) (v := .slice B es.length d) rfl (by kernel_rfl) (by kernel_rfl) (by kernel_rfl) (fun _ _ _ h => h) (Or.inl ⟨by kernel_rfl, fun W hS => by (obtain ⟨r0, r1⟩ := hS); go_simp⟩) ⟨JS.out.cell (i := 0) rfl, JS.out.cell (i := 1) rfl⟩ ?_
      (try simp only [Act.put, List.setIfInBounds_toArray, List.set_cons_zero, List.set_cons_succ])
      refine wpAnyH_done (by kernel_rfl) ?_ _
      have TS := (SB.out.t2.set 0 (.int .i64 p)).set 1 (.int .i64 s)
      have q0 := TS.cell (i := 0) rfl
      have q1 := TS.cell (i := 1) rfl
      go_wp2
      refine bodyPost_ret (v := .tuple #[.agg #[.int .i64 p, .int .i64 s], .int .i64 (v : Int), .int .i64 (x : Int), .slice B es.length d]) (by simp [results, Try.results9, go_sem, q0, q1]) rfl ?_
      exact ⟨p, s, v, x, es, B, d, HP.out, hv, hx, hes6, SB.out.ok, rfl, SlV.of_own (own_put (own_put SB.out.o (by omega) 0 (.int .i64 p)) (by omega) 1 (.int .i64 s)) rfl, (SB.out.h.setCell (p := ⟨w.heap.size, 0, none⟩) (Nat.le_refl _) (.int .i64 p)).setCell (p := ⟨w.heap.size, 1, none⟩) (Nat.le_refl _) (.int .i64 s)⟩
end Go.Proofs.Ytgmgpadijajkkaa
