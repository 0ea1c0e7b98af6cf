/- The contracts of Views, the program's and the model's. Condition: at most 2^20 edges, 2^21 numbers or bytes. -/
import Derived.Test.YtlhcobkncceodaaGreatDoorKRunOkI
import Derived.Test.YtlhcobkncceodaaGreatDoorKViewsI
import Derived.Test.YtlhcobkncceodaaGreatDoorKRunOkS
import Derived.Test.YtlhcobkncceodaaGreatDoorKViewsS
namespace Go.Proofs.YtlhcobkncceodaaGreatDoor
open Go.RowKit
set_option linter.unusedVariables false

/-- What Views answers, as data. -/
def vwB (N : Int) (G : List GE) (r : RD) (v : Int) : Bool := runB N G r && decide (0 ≤ v ∧ v < N)
def viewsR (N : Int) (G : List GE) (r : RD) (v : Int) : List VE := if vwB N G r v then viewsT G r.ev v G.length else []
def placesR (N : Int) (G : List GE) (r : RD) (v : Int) : List Nat := if vwB N G r v then idxT G v G.length else []
set_option maxRecDepth 10000 in
set_option maxHeartbeats 4000000 in
theorem implViews (N : Int) (AG : Option Addr) (l cG : Nat) (G : List GE) (p s it : Int) (dn : Bool) (A : Option Addr) (n c : Nat) (B : Option Addr) (m d : Nat) (nn : Int) (C : Option Addr) (j k : Nat) (vs ev : List Int) (nx : List Nat) (v : Int) (w : World) (hw : Wts w) (hg : SlG w AG l G) (hv : SlI w A n vs) (he : SlI w B m ev) (hx : Rd w C j nx) (hl : l ≤ 1048576) (hn : n ≤ 2097152) (hm : m ≤ 2097152) (hj : j ≤ 2097152) :
    Calls Tryz.prog 22 #[.agg #[.int .i64 N, .slice AG l cG], .agg #[.int .i64 p, .int .i64 s, .int .i64 it, .bool dn, .slice A n c, .slice B m d, .int .i64 nn, .slice C j k], .int .i64 v] w (MadeVI w (viewsR N G ⟨p, s, it, dn, vs, ev, nn, nx⟩ v) (placesR N G ⟨p, s, it, dn, vs, ev, nn, nx⟩ v)) := by
  have LG := Lib.hid hg.len
  have LE := Lib.hid he.len
  have C0 := Lib.hid (fun W (h : Below w.heap.size w W) => implRunOk N AG l cG G p s it dn A n c B m d nn C j k vs ev nx W (hw.below h) (hg.below h) (hv.below h) (he.below h) (hx.below h) hl hn hm hj)
  have HGB := Lib.hid hg
  have HEB := Lib.hid he
  have H0 := Lib.hid (below_a2 w (.cells #[.int .i64 N, .slice AG l cG] 25) (.cells #[.int .i64 p, .int .i64 s, .int .i64 it, .bool dn, .slice A n c, .slice B m d, .int .i64 nn, .slice C j k] 32))
  have BG := Lib.hid ((Blk.new w #[.int .i64 N, .slice AG l cG] 25).alloc (.cells #[.int .i64 p, .int .i64 s, .int .i64 it, .bool dn, .slice A n c, .slice B m d, .int .i64 nn, .slice C j k] 32))
  have BR := Lib.hid (Blk.new (w.alloc (.cells #[.int .i64 N, .slice AG l cG] 25)) #[.int .i64 p, .int .i64 s, .int .i64 it, .bool dn, .slice A n c, .slice B m d, .int .i64 nn, .slice C j k] 32)
  rw [World.size_alloc] at BR
  unfold viewsR placesR vwB
  have HRB : Hid (runB N G ⟨p, s, it, dn, vs, ev, nn, nx⟩ = true → l ≤ m) := Lib.hid (fun h => by
    unfold runB at h
    simp only [Bool.and_eq_true, decide_eq_true_eq] at h
    have h1 := h.2.2.2.1.2
    have h2 := LG.out
    have h3 := LE.out
    omega)
  clear hg hv he hx hw
  cases hb : runB N G ⟨p, s, it, dn, vs, ev, nn, nx⟩ with
  | false =>
    rw [hb] at C0
    simp only [Bool.false_and, Bool.false_eq_true, if_false]
    clear hb HRB
    go_enter Tryz.func22, Tryz.ntmps22
    go_wp2_with fail
    refine (C0.out _ H0.out).mono ?_
    rintro e w1 ⟨rfl, hb⟩
    have H1 := Lib.hid (g_chain H0.out hb)
    clear hb
    go_wp2
    go_ret2
    exact ⟨none, 0, none, 0, rfl, World.ownsRow_nil _ _ _ _, World.ownsRow_nil _ _ _ _, H1.out⟩
  | true =>
    rw [hb] at C0
    have hlm := HRB.out hb
    clear hb HRB
    simp only [Bool.true_and]
    have CH := Lib.hid (fun W => hasVertex_any N AG l cG v W)
    cases hz : decide (0 ≤ v ∧ v < N) with
    | false =>
      rw [hz] at CH
      simp only [Bool.false_eq_true, if_false]
      clear hz
      go_enter Tryz.func22, Tryz.ntmps22
      go_wp2_with fail
      refine (C0.out _ H0.out).mono ?_
      rintro e w1 ⟨rfl, hb⟩
      have H1 := Lib.hid (g_chain H0.out hb)
      have BG1 := Lib.hid (BG.out.below hb)
      clear hb
      have x0 := BG1.out.cell (i := 0) rfl
      have x1 := BG1.out.cell (i := 1) rfl
      go_wp2_with fail
      refine (CH.out _).mono ?_
      rintro e w2 ⟨rfl, hb⟩
      have H2 := Lib.hid (g_chain H1.out hb)
      clear hb
      go_wp2
      go_ret2
      exact ⟨none, 0, none, 0, rfl, World.ownsRow_nil _ _ _ _, World.ownsRow_nil _ _ _ _, H2.out⟩
    | true =>
    rw [hz] at CH
    simp only [if_true]
    clear hz
    have hgl := LG.out
    subst hgl
    go_enter Tryz.func22, Tryz.ntmps22
    go_wp2_with fail
    refine (C0.out _ H0.out).mono ?_
    rintro e w1 ⟨rfl, hb⟩
    have H1 := Lib.hid (g_chain H0.out hb)
    have BG1 := Lib.hid (BG.out.below hb)
    have BR1 := Lib.hid (BR.out.below hb)
    clear hb
    have x0 := BG1.out.cell (i := 0) rfl
    have x1 := BG1.out.cell (i := 1) rfl
    go_wp2_with fail
    refine (CH.out _).mono ?_
    rintro e w2 ⟨rfl, hb⟩
    have H2 := Lib.hid (g_chain H1.out hb)
    have BG2 := Lib.hid (BG1.out.below hb)
    have BR2 := Lib.hid (BR1.out.below hb)
    clear hb x0 x1
    have x0 := BG2.out.cell (i := 0) rfl
    have x1 := BG2.out.cell (i := 1) rfl
    go_wp2_with fail
    refine (implViewsOf (w.heap.size + 1) N AG G.length cG G v p s it dn A n c B m d nn C j k ev _ BR2.out (HGB.out.below H2.out) (HEB.out.below H2.out) hlm hl).mono ?_
    rintro e w3 ⟨A1, c1, A2, c2, rfl, ho1, ho2, hb⟩
    have H3 := Lib.hid (g_chain H2.out hb)
    have O1 := Lib.hid (own_monoG (lo' := w.heap.size) ho1 H2.out.size)
    have O2 := Lib.hid (own_monoG (lo' := w.heap.size) ho2 H2.out.size)
    clear ho1 ho2 hb
    go_wp2
    go_ret2
    exact ⟨A1, c1, A2, c2, rfl, O1.out, O2.out, H3.out⟩
set_option maxRecDepth 10000 in
set_option maxHeartbeats 4000000 in
theorem specViews (N : Int) (AG : Option Addr) (l cG : Nat) (G : List GE) (p s it : Int) (dn : Bool) (A : Option Addr) (n c : Nat) (B : Option Addr) (m d : Nat) (nn : Int) (C : Option Addr) (j k : Nat) (vs ev : List Int) (nx : List Nat) (v : Int) (w : World) (hg : SlG w AG l G) (hv : SlI w A n vs) (he : SlI w B m ev) (hx : Rd w C j nx) (hl : l ≤ 1048576) (hn : n ≤ 2097152) (hm : m ≤ 2097152) (hj : j ≤ 2097152) :
    Calls Tryz.prog 19 #[.agg #[.int .i64 N, .slice AG l cG], .agg #[.int .i64 p, .int .i64 s, .int .i64 it, .bool dn, .slice A n c, .slice B m d, .int .i64 nn, .slice C j k], .int .i64 v] w (MadeVI w (viewsR N G ⟨p, s, it, dn, vs, ev, nn, nx⟩ v) (placesR N G ⟨p, s, it, dn, vs, ev, nn, nx⟩ v)) := by
  have LG := Lib.hid hg.len
  have LE := Lib.hid he.len
  have C0 := Lib.hid (fun W (h : Below w.heap.size w W) => specRunOk N AG l cG G p s it dn A n c B m d nn C j k vs ev nx W (hg.below h) (hv.below h) (he.below h) (hx.below h) hl hn hm hj)
  have HGB := Lib.hid hg
  have HEB := Lib.hid he
  have H0 := Lib.hid (below_a2 w (.cells #[.int .i64 N, .slice AG l cG] 25) (.cells #[.int .i64 p, .int .i64 s, .int .i64 it, .bool dn, .slice A n c, .slice B m d, .int .i64 nn, .slice C j k] 32))
  have BG := Lib.hid ((Blk.new w #[.int .i64 N, .slice AG l cG] 25).alloc (.cells #[.int .i64 p, .int .i64 s, .int .i64 it, .bool dn, .slice A n c, .slice B m d, .int .i64 nn, .slice C j k] 32))
  have BR := Lib.hid (Blk.new (w.alloc (.cells #[.int .i64 N, .slice AG l cG] 25)) #[.int .i64 p, .int .i64 s, .int .i64 it, .bool dn, .slice A n c, .slice B m d, .int .i64 nn, .slice C j k] 32)
  rw [World.size_alloc] at BR
  unfold viewsR placesR vwB
  have HRB : Hid (runB N G ⟨p, s, it, dn, vs, ev, nn, nx⟩ = true → l ≤ m) := Lib.hid (fun h => by
    unfold runB at h
    simp only [Bool.and_eq_true, decide_eq_true_eq] at h
    have h1 := h.2.2.2.1.2
    have h2 := LG.out
    have h3 := LE.out
    omega)
  clear hg hv he hx
  cases hb : runB N G ⟨p, s, it, dn, vs, ev, nn, nx⟩ with
  | false =>
    rw [hb] at C0
    simp only [Bool.false_and, Bool.false_eq_true, if_false]
    clear hb HRB
    go_enter Tryz.func19, Tryz.ntmps19
    go_wp2_with fail
    refine (C0.out _ H0.out).mono ?_
    rintro e w1 ⟨rfl, hb⟩
    have H1 := Lib.hid (g_chain H0.out hb)
    clear hb
    go_wp2
    go_ret2
    exact ⟨none, 0, none, 0, rfl, World.ownsRow_nil _ _ _ _, World.ownsRow_nil _ _ _ _, H1.out⟩
  | true =>
    rw [hb] at C0
    have hlm := HRB.out hb
    clear hb HRB
    simp only [Bool.true_and]
    by_cases h0 : 0 ≤ v
    rotate_left
    · have h0n : v < 0 := by omega
      have hz : decide (0 ≤ v ∧ v < N) = false := by simp [h0]
      simp only [hz, Bool.false_eq_true, if_false]
      clear hz
      go_enter Tryz.func19, Tryz.ntmps19
      go_wp2_with fail
      refine (C0.out _ H0.out).mono ?_
      rintro e w1 ⟨rfl, hb⟩
      have H1 := Lib.hid (g_chain H0.out hb)
      have BG1 := Lib.hid (BG.out.below hb)
      clear hb
      have x0 := BG1.out.cell (i := 0) rfl
      have x1 := BG1.out.cell (i := 1) rfl
      go_wp2
      go_ret2
      exact ⟨none, 0, none, 0, rfl, World.ownsRow_nil _ _ _ _, World.ownsRow_nil _ _ _ _, H1.out⟩
    by_cases h1 : v < N
    rotate_left
    · have h1n : N ≤ v := by omega
      have hz : decide (0 ≤ v ∧ v < N) = false := by simp [h1]
      simp only [hz, Bool.false_eq_true, if_false]
      clear hz
      go_enter Tryz.func19, Tryz.ntmps19
      go_wp2_with fail
      refine (C0.out _ H0.out).mono ?_
      rintro e w1 ⟨rfl, hb⟩
      have H1 := Lib.hid (g_chain H0.out hb)
      have BG1 := Lib.hid (BG.out.below hb)
      clear hb
      have x0 := BG1.out.cell (i := 0) rfl
      have x1 := BG1.out.cell (i := 1) rfl
      go_wp2
      go_ret2
      exact ⟨none, 0, none, 0, rfl, World.ownsRow_nil _ _ _ _, World.ownsRow_nil _ _ _ _, H1.out⟩
    have hz : decide (0 ≤ v ∧ v < N) = true := by simp [h0, h1]
    simp only [hz, if_true]
    clear hz
    have hgl := LG.out
    subst hgl
    go_enter Tryz.func19, Tryz.ntmps19
    go_wp2_with fail
    refine (C0.out _ H0.out).mono ?_
    rintro e w1 ⟨rfl, hb⟩
    have H1 := Lib.hid (g_chain H0.out hb)
    have BG1 := Lib.hid (BG.out.below hb)
    have BR1 := Lib.hid (BR.out.below hb)
    clear hb
    have x0 := BG1.out.cell (i := 0) rfl
    have x1 := BG1.out.cell (i := 1) rfl
    have y0 := BR1.out.cell (i := 0) rfl
    have y1 := BR1.out.cell (i := 1) rfl
    have y2 := BR1.out.cell (i := 2) rfl
    have y3 := BR1.out.cell (i := 3) rfl
    have y4 := BR1.out.cell (i := 4) rfl
    have y5 := BR1.out.cell (i := 5) rfl
    have y6 := BR1.out.cell (i := 6) rfl
    have y7 := BR1.out.cell (i := 7) rfl
    go_wp2_with fail
    refine (specViewsOf N AG G.length cG G v p s it dn A n c B m d nn C j k ev _ (HGB.out.below H1.out) (HEB.out.below H1.out) hlm hl).mono ?_
    rintro e w3 ⟨A1, c1, A2, c2, rfl, ho1, ho2, hb⟩
    have H3 := Lib.hid (g_chain H1.out hb)
    have O1 := Lib.hid (own_monoG (lo' := w.heap.size) ho1 H1.out.size)
    have O2 := Lib.hid (own_monoG (lo' := w.heap.size) ho2 H1.out.size)
    clear ho1 ho2 hb
    go_wp2
    go_ret2
    exact ⟨A1, c1, A2, c2, rfl, O1.out, O2.out, H3.out⟩
end Go.Proofs.YtlhcobkncceodaaGreatDoor
