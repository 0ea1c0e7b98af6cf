/- The contracts of the draws of a graph and a run over it (l11Draw, MakeRun): the graph is valid and has a vertex and at most 13 edges; the run is what at most three iterations make of a new one. -/
import Derived.Test.YtlhcobkncceodaaGreatDoorCGB
import Derived.Test.YtlhcobkncceodaaGreatDoorKRunAllS
import Derived.Test.YtlhcobkncceodaaGreatDoorKRunNewS
import Derived.Test.YtlhcobkncceodaaGreatDoorKDrawn0
namespace Go.Proofs.YtlhcobkncceodaaGreatDoor
open Go.RowKit
set_option linter.unusedVariables false

set_option maxRecDepth 20000 in
set_option maxHeartbeats 16000000 in
theorem drawRun (g : Nat) (A : Option Addr) (n c : Nat) (xs : List Nat) (w : World) (hcur : Cur w g A n c xs) (hg : g < w.heap.size) (hA : 0 < n → ∀ b off sp, A = some ⟨b, off, sp⟩ → b < w.heap.size) :
    Calls Tryz.prog 43 #[.pointer (some ⟨g, 0, none⟩)] w (RunDrawn w g A n c xs) := by
  have HA := Lib.hid hA
  have HB0 := Lib.hid (below_a2 w (.cells #[.int .i64 0, .slice none 0 0] 25) (.cells #[.int .i64 0, .int .i64 0, .int .i64 0, .bool false, .slice none 0 0, .slice none 0 0, .int .i64 0, .slice none 0 0] 32))
  have C0 := Lib.hid (hcur.grow HB0.out)
  have Z1 := Lib.hid ((Blk.new w #[.int .i64 0, .slice none 0 0] 25).alloc (.cells #[.int .i64 0, .int .i64 0, .int .i64 0, .bool false, .slice none 0 0, .slice none 0 0, .int .i64 0, .slice none 0 0] 32))
  have Z2 : Hid (Blk ((w.alloc (.cells #[.int .i64 0, .slice none 0 0] 25)).alloc (.cells #[.int .i64 0, .int .i64 0, .int .i64 0, .bool false, .slice none 0 0, .slice none 0 0, .int .i64 0, .slice none 0 0] 32)) (w.heap.size + 1) #[.int .i64 0, .int .i64 0, .int .i64 0, .bool false, .slice none 0 0, .slice none 0 0, .int .i64 0, .slice none 0 0] 32) := Lib.hid (by have h := Blk.new (w.alloc (.cells #[.int .i64 0, .slice none 0 0] 25)) #[.int .i64 0, .int .i64 0, .int .i64 0, .bool false, .slice none 0 0, .slice none 0 0, .int .i64 0, .slice none 0 0] 32; simpa using h)
  have hz0 : ((w.alloc (.cells #[.int .i64 0, .slice none 0 0] 25)).alloc (.cells #[.int .i64 0, .int .i64 0, .int .i64 0, .bool false, .slice none 0 0, .slice none 0 0, .int .i64 0, .slice none 0 0] 32)).heap.size = w.heap.size + 2 := by simp
  have CD := Lib.hid (drawGraphC g A n c xs _ C0.out (by omega) (fun h0 b off sp e => by have := HA.out h0 b off sp e; omega))
  have G0 := Lib.hid (grownBy_of_below HB0.out (some g))
  clear hcur hA C0 HB0
  go_enter Tryz.func43, Tryz.ntmps43
  go_wp2_with fail
  refine CD.out.mono ?_
  rintro e w1 ⟨N, es, B, d, hN8, hes, hl, rfl, hown, hcu, hgr⟩
  have hsz := hgr.size
  rw [hz0] at hsz
  have HO1 := Lib.hid (own_monoG (lo' := w.heap.size + 2) hown (by omega))
  have G1 := Lib.hid (grownBy_trans G0.out hgr)
  have Y1 := Lib.hid (Z1.out.grown hgr (by intro e; injection e with e; omega))
  have Y2 := Lib.hid (Z2.out.grown hgr (by intro e; injection e with e; omega))
  have HC1 := Lib.hid hcu
  have HES := Lib.hid hes
  clear hown hcu hgr CD G0 Z1 Z2 hes hz0
  have BG1 := Lib.hid (Blk.new w1 #[.int .i64 (N : Int), .slice B es.length d] 25)
  obtain ⟨gb, hgb⟩ : ∃ gb, gb = w1.heap.size := ⟨_, rfl⟩
  have hgl : w.heap.size + 2 ≤ gb := by omega
  by_cases hN0 : N = 0
  case pos =>
    have hes0 := Lib.hid (drawn_none (es := es) (by rw [← hN0]; exact HES.out))
    subst hN0
    have x0 := BG1.out.cell (i := 0) rfl
    have x00 : (w1.alloc (.cells #[.int .i64 ((0 : Nat) : Int), .slice B es.length d] 25)).cell? ⟨w1.heap.size, 0, none⟩ = some (.int .i64 0) := x0
    have xf := BG1.out.frozen 0
    have xl := BG1.out.lt
    go_upto_region 4 with fail
    clear x0 x00 xf xl
    have hb9 := below_a1 w1 (.cells #[.int .i64 1, .slice B es.length d] 25)
    obtain ⟨M, hM⟩ : ∃ M : Nat, M = 1 := ⟨1, rfl⟩
    have HB4 : Hid (Blk (w1.alloc (.cells #[.int .i64 1, .slice B es.length d] 25)) w1.heap.size #[.int .i64 (M : Int), .slice B es.length d] 25) := Lib.hid (by rw [hM]; exact Blk.new w1 #[.int .i64 1, .slice B es.length d] 25)
    have HO4 := Lib.hid (own_below HO1.out hb9)
    have G4 := Lib.hid (grown_below G1.out hb9)
    have Y14 := Lib.hid (Y1.out.below hb9)
    have Y24 := Lib.hid (Y2.out.below hb9)
    have HC4 := Lib.hid (HC1.out.grow hb9)
    have hM8 : 1 ≤ M ∧ M ≤ 8 := by omega
    have HGB : Hid (graphB (M : Int) es = true) := Lib.hid (by rw [hM, hes0.out]; rfl)
    clear hb9 BG1 HO1 G1 Y1 Y2 HC1 HES hM hes0
    generalize hWW : w1.alloc (.cells #[.int .i64 1, .slice B es.length d] 25) = W4 at HB4 HO4 G4 Y14 Y24 HC4 ⊢
    clear hWW
    obtain ⟨nf, hnf⟩ : ∃ nf : Int → Int → RD, nf = newR (M : Int) es := ⟨_, rfl⟩
    have HNF : Hid (nf = newR (M : Int) es) := Lib.hid hnf
    have G4S : Hid (w.heap.size ≤ W4.heap.size) := Lib.hid G4.out.size
    have hg4 := G4S.out
    have CJ := Lib.hid (fun W (h : Cur W g A n c xs) (hs : w.heap.size ≤ W.heap.size) => drawJobN M (by omega) (by omega) g A n c xs W h (Nat.lt_of_lt_of_le hg hs) (fun h0 b off sp e => Nat.lt_of_lt_of_le (HA.out h0 b off sp e) hs))
    unfold JobResN at CJ
    have CR := Lib.hid (fun (p s : Int) (W : World) (hj : jobB (M : Int) p s = true) (hs : SlG W B es.length es) => (by rw [hnf]; exact specNewR M B d es p s W HGB.out hj hs hl : Calls Tryz.prog 80 #[.agg #[.int .i64 (M : Int), .slice B es.length d], .agg #[.int .i64 p, .int .i64 s]] W (MadeRB W (nf p s) true)))
    unfold MadeRB at CR
    clear hnf
    have hg1 : g < w1.heap.size := by omega
    go_cut [5, 6] (fun (sa sb : Value) (wx : World) => ∃ (q : Nat) (p s : Int) (A1 : Option Addr) (c1 : Nat) (B1 : Option Addr) (d1 : Nat) (C1 : Option Addr) (k1 : Nat), sa = .pointer (some ⟨q, 0, none⟩) ∧ sb = .bool true ∧ Hid (jobB (M : Int) p s = true) ∧ Hid (W4.grownBy wx (some g)) ∧ Hid (Cur wx g A n c xs) ∧ Hid (Blk wx q #[.int .i64 (nf p s).p, .int .i64 (nf p s).s, .int .i64 (nf p s).it, .bool (nf p s).dn, .slice A1 (nf p s).vs.length c1, .slice B1 (nf p s).ev.length d1, .int .i64 (nf p s).nn, .slice C1 (nf p s).nx.length k1] 32) ∧ Hid (Rows3 wx W4.heap.size A1 (nf p s).vs.length c1 B1 (nf p s).ev.length d1 C1 (nf p s).nx.length k1 (nf p s).vs (nf p s).ev (nf p s).nx) ∧ Hid (W4.heap.size ≤ q ∧ q < wx.heap.size))
    case first =>
      have HSF : ∀ W, Hid (W4.grownBy W (some g)) → (W.cell? ⟨w1.heap.size, 0, none⟩ = some (.int .i64 (M : Int)) ∧ W.cell? ⟨w1.heap.size, 1, none⟩ = some (.slice B es.length d)) := fun W HR => by
        have h := HB4.out.grown HR.out (by intro e; injection e with e; omega)
        exact ⟨h.cell (i := 0) rfl, h.cell (i := 1) rfl⟩
      have HR : Hid (W4.grownBy W4.drew (some g)) := Lib.hid (grown_drew (World.grownBy.refl _ _))
      have HC : Hid (Cur W4.drew g A n c xs) := Lib.hid HC4.out.drewC
      refine wp_region_any (by kernel_rfl) ?_
      change wpAny _ _ _ _ _ _ _ (World.drew _)
      refine wpAny_of_held (S := fun W => W.cell? ⟨w1.heap.size, 0, none⟩ = some (.int .i64 (M : Int)) ∧ W.cell? ⟨w1.heap.size, 1, none⟩ = some (.slice B es.length d)) _ _ _ _ ?_
      generalize hDD : World.drew W4 = W at HR HC ⊢
      clear hDD
      refine wpAnyH_take (i := 0) (oi := ⟨_, _, _, _, _, _⟩) (v := .agg #[.int .i64 (M : Int), .slice B es.length d]) rfl (by kernel_rfl) (by kernel_rfl) (by kernel_rfl) (fun _ _ _ h => h) (Or.inl ⟨by kernel_rfl, fun W hS => by (obtain ⟨s0, s1⟩ := hS); go_simp⟩) (HSF _ HR) ?_
      (try simp only [Act.put, List.setIfInBounds_toArray, List.set_cons_zero, List.set_cons_succ])
      refine wpAnyH_take (i := 1) (oi := ⟨_, _, _, _, _, _⟩) (v := .pointer (some ⟨g, 0, none⟩)) rfl (by kernel_rfl) (by kernel_rfl) (by kernel_rfl) (fun _ _ _ h => h) (Or.inl ⟨by kernel_rfl, fun W hS => by (obtain ⟨s0, s1⟩ := hS); go_simp⟩) (HSF _ HR) ?_
      (try simp only [Act.put, List.setIfInBounds_toArray, List.set_cons_zero, List.set_cons_succ])
      refine wpAnyH_take (i := 2) (oi := ⟨_, _, _, _, _, _⟩) (v := .pointer (some ⟨w1.heap.size, 0, none⟩)) rfl (by kernel_rfl) (by kernel_rfl) (by kernel_rfl) (fun _ _ _ h => h) (Or.inl ⟨by kernel_rfl, fun W hS => by (obtain ⟨s0, s1⟩ := hS); go_simp⟩) (HSF _ HR) ?_
      (try simp only [Act.put, List.setIfInBounds_toArray, List.set_cons_zero, List.set_cons_succ])
      refine wpAnyH_take (i := 3) (oi := ⟨_, _, _, _, _, _⟩) (v := .int .i64 (M : Int)) rfl (by kernel_rfl) (by kernel_rfl) (by kernel_rfl) (fun _ _ _ h => h) (Or.inl ⟨by kernel_rfl, fun W hS => by (obtain ⟨s0, s1⟩ := hS); go_simp⟩) (HSF _ HR) ?_
      (try simp only [Act.put, List.setIfInBounds_toArray, List.set_cons_zero, List.set_cons_succ])
      refine (fun (Gra2_1 : ∀ (W : World) (p : Int) (s : Int) (A1 : Option Addr) (c1 : Nat) (B1 : Option Addr) (d1 : Nat) (C1 : Option Addr) (k1 : Nat) (q : Nat), Hid (W4.grownBy W (some g)) → Hid (Cur W g A n c xs) → Hid (jobB (M : Int) p s = true) → Hid (Rows3 W W4.heap.size A1 (nf p s).vs.length c1 B1 (nf p s).ev.length d1 C1 (nf p s).nx.length k1 (nf p s).vs (nf p s).ev (nf p s).nx) → Hid (Blk W q #[.int .i64 0, .int .i64 0, .int .i64 0, .bool false, .slice none 0 0, .slice none 0 0, .int .i64 0, .slice none 0 0] 32) → Hid (W4.heap.size ≤ q) → (?Xra2_1 : World → Int → Int → (Option Addr) → Nat → (Option Addr) → Nat → (Option Addr) → Nat → Nat → Prop) W p s A1 c1 B1 d1 C1 k1 q) => ?_) ?_
      rotate_left
      refine (fun (Gra2_0 : ∀ (W : World) (p : Int) (s : Int) (A1 : Option Addr) (c1 : Nat) (B1 : Option Addr) (d1 : Nat) (C1 : Option Addr) (k1 : Nat), Hid (W4.grownBy W (some g)) → Hid (Cur W g A n c xs) → Hid (jobB (M : Int) p s = true) → Hid (Rows3 W W4.heap.size A1 (nf p s).vs.length c1 B1 (nf p s).ev.length d1 C1 (nf p s).nx.length k1 (nf p s).vs (nf p s).ev (nf p s).nx) → (?Xra2_0 : World → Int → Int → (Option Addr) → Nat → (Option Addr) → Nat → (Option Addr) → Nat → Prop) W p s A1 c1 B1 d1 C1 k1) => ?_) ?_
      rotate_left
      refine (fun (Gra1_1 : ∀ (W : World) (p : Int) (s : Int) (q : Nat), Hid (W4.grownBy W (some g)) → Hid (Cur W g A n c xs) → Hid (jobB (M : Int) p s = true) → Hid (Blk W q #[.int .i64 0, .int .i64 0, .int .i64 0, .bool false, .slice none 0 0, .slice none 0 0, .int .i64 0, .slice none 0 0] 32) → Hid (W4.heap.size ≤ q) → (?Xra1_1 : World → Int → Int → Nat → Prop) W p s q) => ?_) ?_
      rotate_left
      refine (fun (Gra1_0 : ∀ (W : World) (p : Int) (s : Int), Hid (W4.grownBy W (some g)) → Hid (Cur W g A n c xs) → Hid (jobB (M : Int) p s = true) → (?Xra1_0 : World → Int → Int → Prop) W p s) => ?_) ?_
      rotate_left
      refine (fun (Gra0_1 : ∀ (W : World) (q : Nat), Hid (W4.grownBy W (some g)) → Hid (Cur W g A n c xs) → Hid (Blk W q #[.int .i64 0, .int .i64 0, .int .i64 0, .bool false, .slice none 0 0, .slice none 0 0, .int .i64 0, .slice none 0 0] 32) → Hid (W4.heap.size ≤ q) → (?Xra0_1 : World → Nat → Prop) W q) => ?_) ?_
      rotate_left
      change wpAnyH _ _ _ _ _ _ #[true, true, true, true, false, false, false, false, false, false, false, false] _ _
      refine wpAnyH_ready (rs := [4, 9]) (by kernel_rfl) (by simp) (AllReadyH.cons rfl (fun K hK => ?_) (AllReadyH.cons rfl (fun K hK => ?_) AllReadyH.nil))
      · skip
        go_simp
        go_at_call 81
        refine (CJ.out W HC.out (Nat.le_trans G4S.out (World.grownBy.size HR.out))).mono ?_
        rintro e W2 ⟨p, s, hj, rfl, hcu, hb⟩
        have HC : Hid (Cur W2 g A n c xs) := Lib.hid (hcu)
        have HJ : Hid (jobB (M : Int) p s = true) := Lib.hid (hj)
        have HR := Lib.hid (grownBy_trans HR.out hb)
        clear hb
        dsimp only
        refine hK.out _ _ (HSF _ HR) (fun _ => ?_)
        clear hK K
        (try simp only [List.setIfInBounds_toArray, List.set_cons_zero, List.set_cons_succ])
        change wpAnyH _ _ _ _ _ _ #[true, true, true, true, true, false, false, false, false, false, false, false] _ _
        exact Gra1_0 W2 p s HR HC HJ
      · skip
        go_simp
        have hb := below_a1 W (.cells #[.int .i64 0, .int .i64 0, .int .i64 0, .bool false, .slice none 0 0, .slice none 0 0, .int .i64 0, .slice none 0 0] 32)
        have HC : Hid (Cur (W.alloc (.cells #[.int .i64 0, .int .i64 0, .int .i64 0, .bool false, .slice none 0 0, .slice none 0 0, .int .i64 0, .slice none 0 0] 32)) g A n c xs) := Lib.hid (HC.out.grow hb)
        have Zq : Hid (Blk (W.alloc (.cells #[.int .i64 0, .int .i64 0, .int .i64 0, .bool false, .slice none 0 0, .slice none 0 0, .int .i64 0, .slice none 0 0] 32)) W.heap.size #[.int .i64 0, .int .i64 0, .int .i64 0, .bool false, .slice none 0 0, .slice none 0 0, .int .i64 0, .slice none 0 0] 32) := Lib.hid (Blk.new W #[.int .i64 0, .int .i64 0, .int .i64 0, .bool false, .slice none 0 0, .slice none 0 0, .int .i64 0, .slice none 0 0] 32)
        have HQq : Hid (W4.heap.size ≤ W.heap.size) := Lib.hid (World.grownBy.size HR.out)
        have HR := Lib.hid (grown_below HR.out hb)
        clear hb
        refine hK.out _ _ (HSF _ HR) (fun _ => ?_)
        clear hK K
        (try simp only [List.setIfInBounds_toArray, List.set_cons_zero, List.set_cons_succ])
        generalize hZ : W.alloc (.cells #[.int .i64 0, .int .i64 0, .int .i64 0, .bool false, .slice none 0 0, .slice none 0 0, .int .i64 0, .slice none 0 0] 32) = W2 at HC Zq HR ⊢
        clear hZ
        generalize hZ : W.heap.size = q at Zq HQq ⊢
        clear hZ
        change wpAnyH _ _ _ _ _ _ #[true, true, true, true, false, false, false, false, false, true, false, false] _ _
        exact Gra0_1 W2 q HR HC Zq HQq
      · intro W q HR HC Zq HQq
        change wpAnyH _ _ _ _ _ _ #[true, true, true, true, false, false, false, false, false, true, false, false] _ _
        refine wpAnyH_ready (rs := [4]) (by kernel_rfl) (by simp) (AllReadyH.cons rfl (fun K hK => ?_) AllReadyH.nil)
        · skip
          go_simp
          go_at_call 81
          refine (CJ.out W HC.out (Nat.le_trans G4S.out (World.grownBy.size HR.out))).mono ?_
          rintro e W2 ⟨p, s, hj, rfl, hcu, hb⟩
          have HC : Hid (Cur W2 g A n c xs) := Lib.hid (hcu)
          have Zq : Hid (Blk W2 q #[.int .i64 0, .int .i64 0, .int .i64 0, .bool false, .slice none 0 0, .slice none 0 0, .int .i64 0, .slice none 0 0] 32) := Lib.hid (Zq.out.grown hb (by intro e; injection e with e; have h1 := HQq.out; omega))
          have HQq : Hid (W4.heap.size ≤ q) := Lib.hid (HQq.out)
          have HJ : Hid (jobB (M : Int) p s = true) := Lib.hid (hj)
          have HR := Lib.hid (grownBy_trans HR.out hb)
          clear hb
          dsimp only
          refine hK.out _ _ (HSF _ HR) (fun _ => ?_)
          clear hK K
          (try simp only [List.setIfInBounds_toArray, List.set_cons_zero, List.set_cons_succ])
          change wpAnyH _ _ _ _ _ _ #[true, true, true, true, true, false, false, false, false, true, false, false] _ _
          exact Gra1_1 W2 p s q HR HC HJ Zq HQq
      · intro W p s HR HC HJ
        change wpAnyH _ _ _ _ _ _ #[true, true, true, true, true, false, false, false, false, false, false, false] _ _
        refine wpAnyH_ready (rs := [5, 9]) (by kernel_rfl) (by simp) (AllReadyH.cons rfl (fun K hK => ?_) (AllReadyH.cons rfl (fun K hK => ?_) AllReadyH.nil))
        · skip
          go_simp
          go_at_call 80
          refine (CR.out p s W HJ.out (SlG.of_own (own_keepG HO4.out HR.out (by omega)) rfl)).mono ?_
          rintro e W2 ⟨A1, c1, B1, d1, C1, k1, rfl, ho, hb⟩
          have HC : Hid (Cur W2 g A n c xs) := Lib.hid (HC.out.grow hb)
          have HJ : Hid (jobB (M : Int) p s = true) := Lib.hid (HJ.out)
          have O : Hid (Rows3 W2 W4.heap.size A1 (nf p s).vs.length c1 B1 (nf p s).ev.length d1 C1 (nf p s).nx.length k1 (nf p s).vs (nf p s).ev (nf p s).nx) := Lib.hid (Rows3.mono ho (World.grownBy.size HR.out))
          have HR := Lib.hid (grown_below HR.out hb)
          clear hb
          dsimp only
          refine hK.out _ _ (HSF _ HR) (fun _ => ?_)
          clear hK K
          (try simp only [List.setIfInBounds_toArray, List.set_cons_zero, List.set_cons_succ])
          refine wpAnyH_take (i := 6) (oi := ⟨_, _, _, _, _, _⟩) (v := .tuple #[.agg #[.int .i64 (nf p s).p, .int .i64 (nf p s).s, .int .i64 (nf p s).it, .bool (nf p s).dn, .slice A1 (nf p s).vs.length c1, .slice B1 (nf p s).ev.length d1, .int .i64 (nf p s).nn, .slice C1 (nf p s).nx.length k1], .bool true]) rfl (by kernel_rfl) (by kernel_rfl) (by kernel_rfl) (fun _ _ _ h => h) (Or.inl ⟨by kernel_rfl, fun W hS => by go_simp⟩) (HSF _ HR) ?_
          (try simp only [Act.put, List.setIfInBounds_toArray, List.set_cons_zero, List.set_cons_succ])
          refine wpAnyH_take (i := 7) (oi := ⟨_, _, _, _, _, _⟩) (v := .agg #[.int .i64 (nf p s).p, .int .i64 (nf p s).s, .int .i64 (nf p s).it, .bool (nf p s).dn, .slice A1 (nf p s).vs.length c1, .slice B1 (nf p s).ev.length d1, .int .i64 (nf p s).nn, .slice C1 (nf p s).nx.length k1]) rfl (by kernel_rfl) (by kernel_rfl) (by kernel_rfl) (fun _ _ _ h => h) (Or.inl ⟨by kernel_rfl, fun W hS => by go_simp⟩) (HSF _ HR) ?_
          (try simp only [Act.put, List.setIfInBounds_toArray, List.set_cons_zero, List.set_cons_succ])
          refine wpAnyH_take (i := 8) (oi := ⟨_, _, _, _, _, _⟩) (v := .bool true) rfl (by kernel_rfl) (by kernel_rfl) (by kernel_rfl) (fun _ _ _ h => h) (Or.inl ⟨by kernel_rfl, fun W hS => by go_simp⟩) (HSF _ HR) ?_
          (try simp only [Act.put, List.setIfInBounds_toArray, List.set_cons_zero, List.set_cons_succ])
          change wpAnyH _ _ _ _ _ _ #[true, true, true, true, true, true, true, true, true, false, false, false] _ _
          exact Gra2_0 W2 p s A1 c1 B1 d1 C1 k1 HR HC HJ O
        · skip
          go_simp
          have hb := below_a1 W (.cells #[.int .i64 0, .int .i64 0, .int .i64 0, .bool false, .slice none 0 0, .slice none 0 0, .int .i64 0, .slice none 0 0] 32)
          have HC : Hid (Cur (W.alloc (.cells #[.int .i64 0, .int .i64 0, .int .i64 0, .bool false, .slice none 0 0, .slice none 0 0, .int .i64 0, .slice none 0 0] 32)) g A n c xs) := Lib.hid (HC.out.grow hb)
          have HJ : Hid (jobB (M : Int) p s = true) := Lib.hid (HJ.out)
          have Zq : Hid (Blk (W.alloc (.cells #[.int .i64 0, .int .i64 0, .int .i64 0, .bool false, .slice none 0 0, .slice none 0 0, .int .i64 0, .slice none 0 0] 32)) W.heap.size #[.int .i64 0, .int .i64 0, .int .i64 0, .bool false, .slice none 0 0, .slice none 0 0, .int .i64 0, .slice none 0 0] 32) := Lib.hid (Blk.new W #[.int .i64 0, .int .i64 0, .int .i64 0, .bool false, .slice none 0 0, .slice none 0 0, .int .i64 0, .slice none 0 0] 32)
          have HQq : Hid (W4.heap.size ≤ W.heap.size) := Lib.hid (World.grownBy.size HR.out)
          have HR := Lib.hid (grown_below HR.out hb)
          clear hb
          refine hK.out _ _ (HSF _ HR) (fun _ => ?_)
          clear hK K
          (try simp only [List.setIfInBounds_toArray, List.set_cons_zero, List.set_cons_succ])
          generalize hZ : W.alloc (.cells #[.int .i64 0, .int .i64 0, .int .i64 0, .bool false, .slice none 0 0, .slice none 0 0, .int .i64 0, .slice none 0 0] 32) = W2 at HC Zq HR ⊢
          clear hZ
          generalize hZ : W.heap.size = q at Zq HQq ⊢
          clear hZ
          change wpAnyH _ _ _ _ _ _ #[true, true, true, true, true, false, false, false, false, true, false, false] _ _
          exact Gra1_1 W2 p s q HR HC HJ Zq HQq
      · intro W p s q HR HC HJ Zq HQq
        change wpAnyH _ _ _ _ _ _ #[true, true, true, true, true, false, false, false, false, true, false, false] _ _
        refine wpAnyH_ready (rs := [5]) (by kernel_rfl) (by simp) (AllReadyH.cons rfl (fun K hK => ?_) AllReadyH.nil)
        · skip
          go_simp
          go_at_call 80
          refine (CR.out p s W HJ.out (SlG.of_own (own_keepG HO4.out HR.out (by omega)) rfl)).mono ?_
          rintro e W2 ⟨A1, c1, B1, d1, C1, k1, rfl, ho, hb⟩
          have HC : Hid (Cur W2 g A n c xs) := Lib.hid (HC.out.grow hb)
          have HJ : Hid (jobB (M : Int) p s = true) := Lib.hid (HJ.out)
          have Zq : Hid (Blk W2 q #[.int .i64 0, .int .i64 0, .int .i64 0, .bool false, .slice none 0 0, .slice none 0 0, .int .i64 0, .slice none 0 0] 32) := Lib.hid (Zq.out.below hb)
          have HQq : Hid (W4.heap.size ≤ q) := Lib.hid (HQq.out)
          have O : Hid (Rows3 W2 W4.heap.size A1 (nf p s).vs.length c1 B1 (nf p s).ev.length d1 C1 (nf p s).nx.length k1 (nf p s).vs (nf p s).ev (nf p s).nx) := Lib.hid (Rows3.mono ho (World.grownBy.size HR.out))
          have HR := Lib.hid (grown_below HR.out hb)
          clear hb
          dsimp only
          refine hK.out _ _ (HSF _ HR) (fun _ => ?_)
          clear hK K
          (try simp only [List.setIfInBounds_toArray, List.set_cons_zero, List.set_cons_succ])
          refine wpAnyH_take (i := 6) (oi := ⟨_, _, _, _, _, _⟩) (v := .tuple #[.agg #[.int .i64 (nf p s).p, .int .i64 (nf p s).s, .int .i64 (nf p s).it, .bool (nf p s).dn, .slice A1 (nf p s).vs.length c1, .slice B1 (nf p s).ev.length d1, .int .i64 (nf p s).nn, .slice C1 (nf p s).nx.length k1], .bool true]) rfl (by kernel_rfl) (by kernel_rfl) (by kernel_rfl) (fun _ _ _ h => h) (Or.inl ⟨by kernel_rfl, fun W hS => by go_simp⟩) (HSF _ HR) ?_
          (try simp only [Act.put, List.setIfInBounds_toArray, List.set_cons_zero, List.set_cons_succ])
          refine wpAnyH_take (i := 7) (oi := ⟨_, _, _, _, _, _⟩) (v := .agg #[.int .i64 (nf p s).p, .int .i64 (nf p s).s, .int .i64 (nf p s).it, .bool (nf p s).dn, .slice A1 (nf p s).vs.length c1, .slice B1 (nf p s).ev.length d1, .int .i64 (nf p s).nn, .slice C1 (nf p s).nx.length k1]) rfl (by kernel_rfl) (by kernel_rfl) (by kernel_rfl) (fun _ _ _ h => h) (Or.inl ⟨by kernel_rfl, fun W hS => by go_simp⟩) (HSF _ HR) ?_
          (try simp only [Act.put, List.setIfInBounds_toArray, List.set_cons_zero, List.set_cons_succ])
          refine wpAnyH_take (i := 8) (oi := ⟨_, _, _, _, _, _⟩) (v := .bool true) rfl (by kernel_rfl) (by kernel_rfl) (by kernel_rfl) (fun _ _ _ h => h) (Or.inl ⟨by kernel_rfl, fun W hS => by go_simp⟩) (HSF _ HR) ?_
          (try simp only [Act.put, List.setIfInBounds_toArray, List.set_cons_zero, List.set_cons_succ])
          change wpAnyH _ _ _ _ _ _ #[true, true, true, true, true, true, true, true, true, true, false, false] _ _
          exact Gra2_1 W2 p s A1 c1 B1 d1 C1 k1 q HR HC HJ O Zq HQq
      · intro W p s A1 c1 B1 d1 C1 k1 HR HC HJ O
        change wpAnyH _ _ _ _ _ _ #[true, true, true, true, true, true, true, true, true, false, false, false] _ _
        refine wpAnyH_ready (rs := [9]) (by kernel_rfl) (by simp) (AllReadyH.cons rfl (fun K hK => ?_) AllReadyH.nil)
        · skip
          go_simp
          have hb := below_a1 W (.cells #[.int .i64 0, .int .i64 0, .int .i64 0, .bool false, .slice none 0 0, .slice none 0 0, .int .i64 0, .slice none 0 0] 32)
          have HC : Hid (Cur (W.alloc (.cells #[.int .i64 0, .int .i64 0, .int .i64 0, .bool false, .slice none 0 0, .slice none 0 0, .int .i64 0, .slice none 0 0] 32)) g A n c xs) := Lib.hid (HC.out.grow hb)
          have HJ : Hid (jobB (M : Int) p s = true) := Lib.hid (HJ.out)
          have O : Hid (Rows3 (W.alloc (.cells #[.int .i64 0, .int .i64 0, .int .i64 0, .bool false, .slice none 0 0, .slice none 0 0, .int .i64 0, .slice none 0 0] 32)) W4.heap.size A1 (nf p s).vs.length c1 B1 (nf p s).ev.length d1 C1 (nf p s).nx.length k1 (nf p s).vs (nf p s).ev (nf p s).nx) := Lib.hid (O.out.below hb)
          have Zq : Hid (Blk (W.alloc (.cells #[.int .i64 0, .int .i64 0, .int .i64 0, .bool false, .slice none 0 0, .slice none 0 0, .int .i64 0, .slice none 0 0] 32)) W.heap.size #[.int .i64 0, .int .i64 0, .int .i64 0, .bool false, .slice none 0 0, .slice none 0 0, .int .i64 0, .slice none 0 0] 32) := Lib.hid (Blk.new W #[.int .i64 0, .int .i64 0, .int .i64 0, .bool false, .slice none 0 0, .slice none 0 0, .int .i64 0, .slice none 0 0] 32)
          have HQq : Hid (W4.heap.size ≤ W.heap.size) := Lib.hid (World.grownBy.size HR.out)
          have HR := Lib.hid (grown_below HR.out hb)
          clear hb
          refine hK.out _ _ (HSF _ HR) (fun _ => ?_)
          clear hK K
          (try simp only [List.setIfInBounds_toArray, List.set_cons_zero, List.set_cons_succ])
          generalize hZ : W.alloc (.cells #[.int .i64 0, .int .i64 0, .int .i64 0, .bool false, .slice none 0 0, .slice none 0 0, .int .i64 0, .slice none 0 0] 32) = W2 at HC O Zq HR ⊢
          clear hZ
          generalize hZ : W.heap.size = q at Zq HQq ⊢
          clear hZ
          change wpAnyH _ _ _ _ _ _ #[true, true, true, true, true, true, true, true, true, true, false, false] _ _
          exact Gra2_1 W2 p s A1 c1 B1 d1 C1 k1 q HR HC HJ O Zq HQq
      · intro W p s A1 c1 B1 d1 C1 k1 q HR HC HJ O Zq HQq
        change wpAnyH _ _ _ _ _ _ #[true, true, true, true, true, true, true, true, true, true, false, false] _ _
        refine wpAnyH_ready (rs := [10]) (by kernel_rfl) (by simp) (AllReadyH.cons rfl (fun K hK => ?_) AllReadyH.nil)
        obtain ⟨zl, z0, z1, z2, z3, z4, z5, z6, z7⟩ := Zq.out.eight
        obtain ⟨f0, f1, f2, f3, f4, f5, f6, f7⟩ := Zq.out.eightF
        go_simp
        clear z0 z1 z2 z3 z4 z5 z6 z7 f0 f1 f2 f3 f4 f5 f6 f7
        have hgr := layR_grown W q (.int .i64 (nf p s).p) (.int .i64 (nf p s).s) (.int .i64 (nf p s).it) (.bool (nf p s).dn) (.slice A1 (nf p s).vs.length c1) (.slice B1 (nf p s).ev.length d1) (.int .i64 (nf p s).nn) (.slice C1 (nf p s).nx.length k1)
        have hqq := HQq.out
        have hbl := HB4.out.lt
        have EB := Lib.hid ((HB4.out.grown HR.out (by intro e; injection e with e; omega)).grown hgr (by intro e; injection e with e; omega))
        refine hK.out _ _ ⟨EB.out.cell (i := 0) rfl, EB.out.cell (i := 1) rfl⟩ (fun _ => ?_)
        clear hK K
        (try simp only [List.setIfInBounds_toArray, List.set_cons_zero, List.set_cons_succ])
        refine wpAnyH_take (i := 11) (oi := ⟨_, _, _, _, _, _⟩) (v := .bool true) rfl (by kernel_rfl) (by kernel_rfl) (by kernel_rfl) (fun _ _ _ h => h) (Or.inl ⟨by kernel_rfl, fun W hS => by go_simp⟩) ⟨EB.out.cell (i := 0) rfl, EB.out.cell (i := 1) rfl⟩ ?_
        (try simp only [Act.put, List.setIfInBounds_toArray, List.set_cons_zero, List.set_cons_succ])
        refine wpAnyH_done (by kernel_rfl) ?_ _
        go_wp2_with fail
        go_meet
        exact ⟨q, p, s, A1, c1, B1, d1, C1, k1, rfl, rfl, HJ, Lib.hid (grownBy_far HR.out hgr (fun k hk => by injection hk with hk; omega)), Lib.hid (HC.out.far (B := w.heap.size) hgr (fun k hk => by injection hk with hk; omega) hg HA.out), Lib.hid (layR_blk Zq.out), Lib.hid (O.out.past hgr Zq.out (by decide) (by decide)), Lib.hid ⟨HQq.out, Nat.lt_of_lt_of_le zl hgr.size⟩⟩
    case rest =>
      rename World => W5
      obtain ⟨q, p, s, A1, c1, B1, d1, C1, k1, rfl, rfl, hj, hgw, hcu, hrb, hr5, hq5⟩ := hcut
      have HJ := Lib.hid hj.out
      have hqq := hq5.out
      have hbl := HB4.out.lt
      have hy1 := Y14.out.lt
      have hy2 := Y24.out.lt
      have hrow : Rows3 W5 (w.heap.size + 2) A1 (nf p s).vs.length c1 B1 (nf p s).ev.length d1 C1 (nf p s).nx.length k1 (nf p s).vs (nf p s).ev (nf p s).nx := hr5.out.mono (by omega)
      have hb : Below W5.heap.size W5 W5.drew := (Below.refl _ _).drew
      have HG := Lib.hid (grown_below (grownBy_trans G4.out hgw.out) hb)
      have HB := Lib.hid ((HB4.out.grown hgw.out (by intro e; injection e with e; omega)).below hb)
      have HO := Lib.hid (own_below (own_keepG HO4.out hgw.out (by omega)) hb)
      have Y1 := Lib.hid ((Y14.out.grown hgw.out (by intro e; injection e with e; omega)).below hb)
      have Y2 := Lib.hid ((Y24.out.grown hgw.out (by intro e; injection e with e; omega)).below hb)
      have HC := Lib.hid (hcu.out.grow hb)
      have HRB := Lib.hid (hrb.out.below hb)
      have HRO := Lib.hid (hrow.below hb)
      have hrun : RunP M es (nf p s) ∧ SmallR (nf p s) := by rw [HNF.out]; exact ⟨newR_ok HGB.out HJ.out, newR_small p s⟩
      obtain ⟨af, haf⟩ : ∃ af : Nat → RD, af = allR (M : Int) es (nf p s) := ⟨_, rfl⟩
      have CA := Lib.hid (fun (k : Nat) (W : World) (hs : SlG W B es.length es) (hst : Rows3 W (w.heap.size + 2) A1 (nf p s).vs.length c1 B1 (nf p s).ev.length d1 C1 (nf p s).nx.length k1 (nf p s).vs (nf p s).ev (nf p s).nx) => (by rw [haf]; exact specAllR M B d es (nf p s) k A1 c1 B1 d1 C1 k1 _ W hrun.1 hrun.2 hs hl hst : Calls Tryz.prog 11 #[.agg #[.int .i64 (M : Int), .slice B es.length d], .agg #[.int .i64 (nf p s).p, .int .i64 (nf p s).s, .int .i64 (nf p s).it, .bool (nf p s).dn, .slice A1 (nf p s).vs.length c1, .slice B1 (nf p s).ev.length d1, .int .i64 (nf p s).nn, .slice C1 (nf p s).nx.length k1], .int .i64 (k : Int)] W (MadeRO W (af k))))
      unfold MadeRO at CA
      have CB := Lib.hid (fun W (hc : Cur W g A n c xs) => drawBelow g A n c 4 xs W hc (by omega) (by omega))
      have HAF : Hid (af = allR (M : Int) es (newR (M : Int) es p s)) := Lib.hid (by rw [haf, HNF.out])
      clear hb hgw hcu hrb hr5 hq5 hrow hrun haf hj CJ CR HB4 HO4 G4 Y14 Y24 HC4
      go_upto_region 5 with fail
      refine wp_region_any (by kernel_rfl) ?_
      change wpAny _ _ _ _ _ _ _ (World.drew _)
      refine wpAny_of_held (S := fun W => W.cell? ⟨w1.heap.size, 0, none⟩ = some (.int .i64 (M : Int)) ∧ W.cell? ⟨w1.heap.size, 1, none⟩ = some (.slice B es.length d) ∧ W.cell? ⟨q, 0, none⟩ = some (.int .i64 (nf p s).p) ∧ W.cell? ⟨q, 1, none⟩ = some (.int .i64 (nf p s).s) ∧ W.cell? ⟨q, 2, none⟩ = some (.int .i64 (nf p s).it) ∧ W.cell? ⟨q, 3, none⟩ = some (.bool (nf p s).dn) ∧ W.cell? ⟨q, 4, none⟩ = some (.slice A1 (nf p s).vs.length c1) ∧ W.cell? ⟨q, 5, none⟩ = some (.slice B1 (nf p s).ev.length d1) ∧ W.cell? ⟨q, 6, none⟩ = some (.int .i64 (nf p s).nn) ∧ W.cell? ⟨q, 7, none⟩ = some (.slice C1 (nf p s).nx.length k1)) _ _ _ _ ?_
      generalize hDD : World.drew W5 = wd at HG HB HO Y1 Y2 HC HRB HRO ⊢
      clear hDD
      refine wpAnyH_take (i := 0) (oi := ⟨_, _, _, _, _, _⟩) (v := .agg #[.int .i64 (M : Int), .slice B es.length d]) rfl (by kernel_rfl) (by kernel_rfl) (by kernel_rfl) (fun _ _ _ h => h) (Or.inl ⟨by kernel_rfl, fun W hS => by (obtain ⟨s0, s1, s2, s3, s4, s5, s6, s7, s8, s9⟩ := hS); go_simp⟩) ⟨HB.out.cell (i := 0) rfl, HB.out.cell (i := 1) rfl, HRB.out.cell (i := 0) rfl, HRB.out.cell (i := 1) rfl, HRB.out.cell (i := 2) rfl, HRB.out.cell (i := 3) rfl, HRB.out.cell (i := 4) rfl, HRB.out.cell (i := 5) rfl, HRB.out.cell (i := 6) rfl, HRB.out.cell (i := 7) rfl⟩ ?_
      (try simp only [Act.put, List.setIfInBounds_toArray, List.set_cons_zero, List.set_cons_succ])
      refine wpAnyH_take (i := 1) (oi := ⟨_, _, _, _, _, _⟩) (v := .agg #[.int .i64 (M : Int), .slice B es.length d]) rfl (by kernel_rfl) (by kernel_rfl) (by kernel_rfl) (fun _ _ _ h => h) (Or.inl ⟨by kernel_rfl, fun W hS => by (obtain ⟨s0, s1, s2, s3, s4, s5, s6, s7, s8, s9⟩ := hS); go_simp⟩) ⟨HB.out.cell (i := 0) rfl, HB.out.cell (i := 1) rfl, HRB.out.cell (i := 0) rfl, HRB.out.cell (i := 1) rfl, HRB.out.cell (i := 2) rfl, HRB.out.cell (i := 3) rfl, HRB.out.cell (i := 4) rfl, HRB.out.cell (i := 5) rfl, HRB.out.cell (i := 6) rfl, HRB.out.cell (i := 7) rfl⟩ ?_
      (try simp only [Act.put, List.setIfInBounds_toArray, List.set_cons_zero, List.set_cons_succ])
      refine wpAnyH_take (i := 2) (oi := ⟨_, _, _, _, _, _⟩) (v := .agg #[.int .i64 (nf p s).p, .int .i64 (nf p s).s, .int .i64 (nf p s).it, .bool (nf p s).dn, .slice A1 (nf p s).vs.length c1, .slice B1 (nf p s).ev.length d1, .int .i64 (nf p s).nn, .slice C1 (nf p s).nx.length k1]) rfl (by kernel_rfl) (by kernel_rfl) (by kernel_rfl) (fun _ _ _ h => h) (Or.inl ⟨by kernel_rfl, fun W hS => by (obtain ⟨s0, s1, s2, s3, s4, s5, s6, s7, s8, s9⟩ := hS); go_simp⟩) ⟨HB.out.cell (i := 0) rfl, HB.out.cell (i := 1) rfl, HRB.out.cell (i := 0) rfl, HRB.out.cell (i := 1) rfl, HRB.out.cell (i := 2) rfl, HRB.out.cell (i := 3) rfl, HRB.out.cell (i := 4) rfl, HRB.out.cell (i := 5) rfl, HRB.out.cell (i := 6) rfl, HRB.out.cell (i := 7) rfl⟩ ?_
      (try simp only [Act.put, List.setIfInBounds_toArray, List.set_cons_zero, List.set_cons_succ])
      refine wpAnyH_take (i := 3) (oi := ⟨_, _, _, _, _, _⟩) (v := .pointer (some ⟨g, 0, none⟩)) rfl (by kernel_rfl) (by kernel_rfl) (by kernel_rfl) (fun _ _ _ h => h) (Or.inl ⟨by kernel_rfl, fun W hS => by (obtain ⟨s0, s1, s2, s3, s4, s5, s6, s7, s8, s9⟩ := hS); go_simp⟩) ⟨HB.out.cell (i := 0) rfl, HB.out.cell (i := 1) rfl, HRB.out.cell (i := 0) rfl, HRB.out.cell (i := 1) rfl, HRB.out.cell (i := 2) rfl, HRB.out.cell (i := 3) rfl, HRB.out.cell (i := 4) rfl, HRB.out.cell (i := 5) rfl, HRB.out.cell (i := 6) rfl, HRB.out.cell (i := 7) rfl⟩ ?_
      (try simp only [Act.put, List.setIfInBounds_toArray, List.set_cons_zero, List.set_cons_succ])
      refine wpAnyH_ready (rs := [4]) (by kernel_rfl) (by simp) (AllReadyH.cons rfl (fun K hK => ?_) AllReadyH.nil)
      go_simp
      go_at_call 82
      refine (CB.out _ HC.out).mono ?_
      rintro e w6 ⟨k, hk, rfl, hcu, hgr⟩
      replace HG := Lib.hid (grownBy_trans HG.out hgr)
      replace HB := Lib.hid (HB.out.grown hgr (by intro e; injection e with e; omega))
      replace HO := Lib.hid (own_keepG HO.out hgr (by omega))
      replace Y1 := Lib.hid (Y1.out.grown hgr (by intro e; injection e with e; omega))
      replace Y2 := Lib.hid (Y2.out.grown hgr (by intro e; injection e with e; omega))
      replace HRB := Lib.hid (HRB.out.grown hgr (by intro e; injection e with e; omega))
      replace HRO := Lib.hid (HRO.out.keep hgr (by omega))
      replace HC := Lib.hid hcu
      clear hcu hgr CB
      dsimp only
      refine hK.out _ _ ⟨HB.out.cell (i := 0) rfl, HB.out.cell (i := 1) rfl, HRB.out.cell (i := 0) rfl, HRB.out.cell (i := 1) rfl, HRB.out.cell (i := 2) rfl, HRB.out.cell (i := 3) rfl, HRB.out.cell (i := 4) rfl, HRB.out.cell (i := 5) rfl, HRB.out.cell (i := 6) rfl, HRB.out.cell (i := 7) rfl⟩ (fun _ => ?_)
      clear hK K
      (try simp only [Act.put, List.setIfInBounds_toArray, List.set_cons_zero, List.set_cons_succ])
      refine wpAnyH_ready (rs := [5]) (by kernel_rfl) (by simp) (AllReadyH.cons rfl (fun K hK => ?_) AllReadyH.nil)
      go_simp
      go_at_call 11
      refine (CA.out k _ (SlG.of_own HO.out rfl) HRO.out).mono ?_
      rintro e w7 ⟨A2, c2, B2, d2, C2, k2, rfl, hr7, hb⟩
      have HR7 := Lib.hid (hr7.mono (lo' := w.heap.size) HG.out.size)
      replace HG := Lib.hid (grown_below HG.out hb)
      replace HB := Lib.hid (HB.out.below hb)
      replace HO := Lib.hid (own_below HO.out hb)
      replace Y1 := Lib.hid (Y1.out.below hb)
      replace Y2 := Lib.hid (Y2.out.below hb)
      replace HRB := Lib.hid (HRB.out.below hb)
      replace HC := Lib.hid (HC.out.grow hb)
      clear hr7 hb CA HRO
      dsimp only
      refine hK.out _ _ ⟨HB.out.cell (i := 0) rfl, HB.out.cell (i := 1) rfl, HRB.out.cell (i := 0) rfl, HRB.out.cell (i := 1) rfl, HRB.out.cell (i := 2) rfl, HRB.out.cell (i := 3) rfl, HRB.out.cell (i := 4) rfl, HRB.out.cell (i := 5) rfl, HRB.out.cell (i := 6) rfl, HRB.out.cell (i := 7) rfl⟩ (fun _ => ?_)
      clear hK K
      (try simp only [Act.put, List.setIfInBounds_toArray, List.set_cons_zero, List.set_cons_succ])
      refine wpAnyH_ready (rs := [6]) (by kernel_rfl) (by simp) (AllReadyH.cons rfl (fun K hK => ?_) AllReadyH.nil)
      have a0 := Y1.out.cell (i := 0) rfl
      have a1 := Y1.out.cell (i := 1) rfl
      have af' := fun i => Y1.out.frozen i
      have al := Y1.out.lt
      go_simp
      clear a0 a1 af' al
      have hgs := set2_grown w7 w.heap.size 0 1 (.int .i64 (M : Int)) (.slice B es.length d)
      have HR7' := Lib.hid (HR7.out.past hgs Y1.out (by decide) (by decide))
      have HO' := Lib.hid (own_kept HO.out hgs (own_kind HO.out Y1.out (by decide)))
      have HC' := Lib.hid (HC.out.far (B := w.heap.size) hgs (fun k hk => by injection hk with hk; omega) hg HA.out)
      have HG' := Lib.hid (grownBy_far HG.out hgs (fun k hk => by injection hk with hk; omega))
      replace HB := Lib.hid (HB.out.grown hgs (by intro e; injection e with e; omega))
      replace HRB := Lib.hid (HRB.out.grown hgs (by intro e; injection e with e; omega))
      replace Y2 := Lib.hid (Y2.out.grown hgs (by intro e; injection e with e; omega))
      have Y1' := Lib.hid (Blk.set (Blk.set Y1.out 0 (.int .i64 (M : Int))) 1 (.slice B es.length d))
      clear HR7 HO HC HG Y1 hgs
      generalize hWW : (w7.setCell ⟨w.heap.size, 0, none⟩ (.int .i64 (M : Int))).setCell ⟨w.heap.size, 1, none⟩ (.slice B es.length d) = w8 at HR7' HO' HC' HG' HB HRB Y2 Y1' ⊢
      clear hWW
      refine hK.out _ _ ⟨HB.out.cell (i := 0) rfl, HB.out.cell (i := 1) rfl, HRB.out.cell (i := 0) rfl, HRB.out.cell (i := 1) rfl, HRB.out.cell (i := 2) rfl, HRB.out.cell (i := 3) rfl, HRB.out.cell (i := 4) rfl, HRB.out.cell (i := 5) rfl, HRB.out.cell (i := 6) rfl, HRB.out.cell (i := 7) rfl⟩ (fun _ => ?_)
      clear hK K
      (try simp only [Act.put])
      refine wpAnyH_ready (rs := [7]) (by kernel_rfl) (by simp) (AllReadyH.cons rfl (fun K hK => ?_) AllReadyH.nil)
      obtain ⟨al, a0, a1, a2, a3, a4, a5, a6, a7⟩ := Y2.out.eight
      have af' := fun i => Y2.out.frozen i
      go_simp
      clear a0 a1 a2 a3 a4 a5 a6 a7 af' al
      have hgs := layR_grown w8 (w.heap.size + 1) (.int .i64 (af k).p) (.int .i64 (af k).s) (.int .i64 (af k).it) (.bool (af k).dn) (.slice A2 (af k).vs.length c2) (.slice B2 (af k).ev.length d2) (.int .i64 (af k).nn) (.slice C2 (af k).nx.length k2)
      have HR8 := Lib.hid (HR7'.out.past hgs Y2.out (by decide) (by decide))
      have HO8 := Lib.hid (own_kept HO'.out hgs (own_kind HO'.out Y2.out (by decide)))
      have HC8 := Lib.hid (HC'.out.far (B := w.heap.size) hgs (fun k hk => by injection hk with hk; omega) hg HA.out)
      have HG8 := Lib.hid (grownBy_far HG'.out hgs (fun k hk => by injection hk with hk; omega))
      replace HB := Lib.hid (HB.out.grown hgs (by intro e; injection e with e; omega))
      replace HRB := Lib.hid (HRB.out.grown hgs (by intro e; injection e with e; omega))
      have Y18 := Lib.hid (Y1'.out.grown hgs (by intro e; injection e with e; omega))
      have Y28 := Lib.hid (layR_blk (x0 := .int .i64 (af k).p) (x1 := .int .i64 (af k).s) (x2 := .int .i64 (af k).it) (x3 := .bool (af k).dn) (x4 := .slice A2 (af k).vs.length c2) (x5 := .slice B2 (af k).ev.length d2) (x6 := .int .i64 (af k).nn) (x7 := .slice C2 (af k).nx.length k2) Y2.out)
      clear hgs
      refine hK.out _ _ ⟨HB.out.cell (i := 0) rfl, HB.out.cell (i := 1) rfl, HRB.out.cell (i := 0) rfl, HRB.out.cell (i := 1) rfl, HRB.out.cell (i := 2) rfl, HRB.out.cell (i := 3) rfl, HRB.out.cell (i := 4) rfl, HRB.out.cell (i := 5) rfl, HRB.out.cell (i := 6) rfl, HRB.out.cell (i := 7) rfl⟩ (fun _ => ?_)
      clear hK K
      (try simp only [Act.put])
      refine wpAnyH_done (by kernel_rfl) ?_ _
      go_wp2
      obtain ⟨-, y0, y1, y2, y3, y4, y5, y6, y7⟩ := Y28.out.eight
      have u0 := Y18.out.cell (i := 0) rfl
      have u1 := Y18.out.cell (i := 1) rfl
      unfold layR at y0 y1 y2 y3 y4 y5 y6 y7 u0 u1
      refine bodyPost_ret (v := .tuple #[.agg #[.int .i64 (M : Int), .slice B es.length d], .agg #[.int .i64 (af k).p, .int .i64 (af k).s, .int .i64 (af k).it, .bool (af k).dn, .slice A2 (af k).vs.length c2, .slice B2 (af k).ev.length d2, .int .i64 (af k).nn, .slice C2 (af k).nx.length k2]]) (by simp [results, Tryz.results43, go_sem, y0, y1, y2, y3, y4, y5, y6, y7, u0, u1]) rfl ?_
      exact ⟨M, es, B, d, p, s, k, af k, A2, c2, B2, d2, C2, k2, ⟨hM8.1, hk, HGB.out, HJ.out, hl, by rw [HAF.out]⟩, rfl, own_monoG HO8.out (by omega), HR8.out, HC8.out, HG8.out⟩
  case neg =>
    have hNz : ((N : Int) == 0) = false := by simp; omega
    have x0 := BG1.out.cell (i := 0) rfl
    have xl := BG1.out.lt
    go_upto_region 4 with fail
    clear x0 xl hNz
    obtain ⟨M, hM⟩ : ∃ M : Nat, M = N := ⟨N, rfl⟩
    have HB4 : Hid (Blk (w1.alloc (.cells #[.int .i64 (N : Int), .slice B es.length d] 25)) w1.heap.size #[.int .i64 (M : Int), .slice B es.length d] 25) := Lib.hid (by rw [hM]; exact BG1.out)
    have hb9 := below_a1 w1 (.cells #[.int .i64 (N : Int), .slice B es.length d] 25)
    have HO4 := Lib.hid (own_below HO1.out hb9)
    have G4 := Lib.hid (grown_below G1.out hb9)
    have Y14 := Lib.hid (Y1.out.below hb9)
    have Y24 := Lib.hid (Y2.out.below hb9)
    have HC4 := Lib.hid (HC1.out.grow hb9)
    have hM8 : 1 ≤ M ∧ M ≤ 8 := by omega
    have HGB : Hid (graphB (M : Int) es = true) := Lib.hid (by rw [hM]; exact drawn_valid hN8 HES.out hl)
    clear hb9 BG1 HO1 G1 Y1 Y2 HC1 HES hM
    generalize hWW : w1.alloc (.cells #[.int .i64 (N : Int), .slice B es.length d] 25) = W4 at HB4 HO4 G4 Y14 Y24 HC4 ⊢
    clear hWW
    obtain ⟨nf, hnf⟩ : ∃ nf : Int → Int → RD, nf = newR (M : Int) es := ⟨_, rfl⟩
    have HNF : Hid (nf = newR (M : Int) es) := Lib.hid hnf
    have G4S : Hid (w.heap.size ≤ W4.heap.size) := Lib.hid G4.out.size
    have hg4 := G4S.out
    have CJ := Lib.hid (fun W (h : Cur W g A n c xs) (hs : w.heap.size ≤ W.heap.size) => drawJobN M (by omega) (by omega) g A n c xs W h (Nat.lt_of_lt_of_le hg hs) (fun h0 b off sp e => Nat.lt_of_lt_of_le (HA.out h0 b off sp e) hs))
    unfold JobResN at CJ
    have CR := Lib.hid (fun (p s : Int) (W : World) (hj : jobB (M : Int) p s = true) (hs : SlG W B es.length es) => (by rw [hnf]; exact specNewR M B d es p s W HGB.out hj hs hl : Calls Tryz.prog 80 #[.agg #[.int .i64 (M : Int), .slice B es.length d], .agg #[.int .i64 p, .int .i64 s]] W (MadeRB W (nf p s) true)))
    unfold MadeRB at CR
    clear hnf
    have hg1 : g < w1.heap.size := by omega
    go_cut [5, 6] (fun (sa sb : Value) (wx : World) => ∃ (q : Nat) (p s : Int) (A1 : Option Addr) (c1 : Nat) (B1 : Option Addr) (d1 : Nat) (C1 : Option Addr) (k1 : Nat), sa = .pointer (some ⟨q, 0, none⟩) ∧ sb = .bool true ∧ Hid (jobB (M : Int) p s = true) ∧ Hid (W4.grownBy wx (some g)) ∧ Hid (Cur wx g A n c xs) ∧ Hid (Blk wx q #[.int .i64 (nf p s).p, .int .i64 (nf p s).s, .int .i64 (nf p s).it, .bool (nf p s).dn, .slice A1 (nf p s).vs.length c1, .slice B1 (nf p s).ev.length d1, .int .i64 (nf p s).nn, .slice C1 (nf p s).nx.length k1] 32) ∧ Hid (Rows3 wx W4.heap.size A1 (nf p s).vs.length c1 B1 (nf p s).ev.length d1 C1 (nf p s).nx.length k1 (nf p s).vs (nf p s).ev (nf p s).nx) ∧ Hid (W4.heap.size ≤ q ∧ q < wx.heap.size))
    case first =>
      have HSF : ∀ W, Hid (W4.grownBy W (some g)) → (W.cell? ⟨w1.heap.size, 0, none⟩ = some (.int .i64 (M : Int)) ∧ W.cell? ⟨w1.heap.size, 1, none⟩ = some (.slice B es.length d)) := fun W HR => by
        have h := HB4.out.grown HR.out (by intro e; injection e with e; omega)
        exact ⟨h.cell (i := 0) rfl, h.cell (i := 1) rfl⟩
      have HR : Hid (W4.grownBy W4.drew (some g)) := Lib.hid (grown_drew (World.grownBy.refl _ _))
      have HC : Hid (Cur W4.drew g A n c xs) := Lib.hid HC4.out.drewC
      refine wp_region_any (by kernel_rfl) ?_
      change wpAny _ _ _ _ _ _ _ (World.drew _)
      refine wpAny_of_held (S := fun W => W.cell? ⟨w1.heap.size, 0, none⟩ = some (.int .i64 (M : Int)) ∧ W.cell? ⟨w1.heap.size, 1, none⟩ = some (.slice B es.length d)) _ _ _ _ ?_
      generalize hDD : World.drew W4 = W at HR HC ⊢
      clear hDD
      refine wpAnyH_take (i := 0) (oi := ⟨_, _, _, _, _, _⟩) (v := .agg #[.int .i64 (M : Int), .slice B es.length d]) rfl (by kernel_rfl) (by kernel_rfl) (by kernel_rfl) (fun _ _ _ h => h) (Or.inl ⟨by kernel_rfl, fun W hS => by (obtain ⟨s0, s1⟩ := hS); go_simp⟩) (HSF _ HR) ?_
      (try simp only [Act.put, List.setIfInBounds_toArray, List.set_cons_zero, List.set_cons_succ])
      refine wpAnyH_take (i := 1) (oi := ⟨_, _, _, _, _, _⟩) (v := .pointer (some ⟨g, 0, none⟩)) rfl (by kernel_rfl) (by kernel_rfl) (by kernel_rfl) (fun _ _ _ h => h) (Or.inl ⟨by kernel_rfl, fun W hS => by (obtain ⟨s0, s1⟩ := hS); go_simp⟩) (HSF _ HR) ?_
      (try simp only [Act.put, List.setIfInBounds_toArray, List.set_cons_zero, List.set_cons_succ])
      refine wpAnyH_take (i := 2) (oi := ⟨_, _, _, _, _, _⟩) (v := .pointer (some ⟨w1.heap.size, 0, none⟩)) rfl (by kernel_rfl) (by kernel_rfl) (by kernel_rfl) (fun _ _ _ h => h) (Or.inl ⟨by kernel_rfl, fun W hS => by (obtain ⟨s0, s1⟩ := hS); go_simp⟩) (HSF _ HR) ?_
      (try simp only [Act.put, List.setIfInBounds_toArray, List.set_cons_zero, List.set_cons_succ])
      refine wpAnyH_take (i := 3) (oi := ⟨_, _, _, _, _, _⟩) (v := .int .i64 (M : Int)) rfl (by kernel_rfl) (by kernel_rfl) (by kernel_rfl) (fun _ _ _ h => h) (Or.inl ⟨by kernel_rfl, fun W hS => by (obtain ⟨s0, s1⟩ := hS); go_simp⟩) (HSF _ HR) ?_
      (try simp only [Act.put, List.setIfInBounds_toArray, List.set_cons_zero, List.set_cons_succ])
      refine (fun (Grb2_1 : ∀ (W : World) (p : Int) (s : Int) (A1 : Option Addr) (c1 : Nat) (B1 : Option Addr) (d1 : Nat) (C1 : Option Addr) (k1 : Nat) (q : Nat), Hid (W4.grownBy W (some g)) → Hid (Cur W g A n c xs) → Hid (jobB (M : Int) p s = true) → Hid (Rows3 W W4.heap.size A1 (nf p s).vs.length c1 B1 (nf p s).ev.length d1 C1 (nf p s).nx.length k1 (nf p s).vs (nf p s).ev (nf p s).nx) → Hid (Blk W q #[.int .i64 0, .int .i64 0, .int .i64 0, .bool false, .slice none 0 0, .slice none 0 0, .int .i64 0, .slice none 0 0] 32) → Hid (W4.heap.size ≤ q) → (?Xrb2_1 : World → Int → Int → (Option Addr) → Nat → (Option Addr) → Nat → (Option Addr) → Nat → Nat → Prop) W p s A1 c1 B1 d1 C1 k1 q) => ?_) ?_
      rotate_left
      refine (fun (Grb2_0 : ∀ (W : World) (p : Int) (s : Int) (A1 : Option Addr) (c1 : Nat) (B1 : Option Addr) (d1 : Nat) (C1 : Option Addr) (k1 : Nat), Hid (W4.grownBy W (some g)) → Hid (Cur W g A n c xs) → Hid (jobB (M : Int) p s = true) → Hid (Rows3 W W4.heap.size A1 (nf p s).vs.length c1 B1 (nf p s).ev.length d1 C1 (nf p s).nx.length k1 (nf p s).vs (nf p s).ev (nf p s).nx) → (?Xrb2_0 : World → Int → Int → (Option Addr) → Nat → (Option Addr) → Nat → (Option Addr) → Nat → Prop) W p s A1 c1 B1 d1 C1 k1) => ?_) ?_
      rotate_left
      refine (fun (Grb1_1 : ∀ (W : World) (p : Int) (s : Int) (q : Nat), Hid (W4.grownBy W (some g)) → Hid (Cur W g A n c xs) → Hid (jobB (M : Int) p s = true) → Hid (Blk W q #[.int .i64 0, .int .i64 0, .int .i64 0, .bool false, .slice none 0 0, .slice none 0 0, .int .i64 0, .slice none 0 0] 32) → Hid (W4.heap.size ≤ q) → (?Xrb1_1 : World → Int → Int → Nat → Prop) W p s q) => ?_) ?_
      rotate_left
      refine (fun (Grb1_0 : ∀ (W : World) (p : Int) (s : Int), Hid (W4.grownBy W (some g)) → Hid (Cur W g A n c xs) → Hid (jobB (M : Int) p s = true) → (?Xrb1_0 : World → Int → Int → Prop) W p s) => ?_) ?_
      rotate_left
      refine (fun (Grb0_1 : ∀ (W : World) (q : Nat), Hid (W4.grownBy W (some g)) → Hid (Cur W g A n c xs) → Hid (Blk W q #[.int .i64 0, .int .i64 0, .int .i64 0, .bool false, .slice none 0 0, .slice none 0 0, .int .i64 0, .slice none 0 0] 32) → Hid (W4.heap.size ≤ q) → (?Xrb0_1 : World → Nat → Prop) W q) => ?_) ?_
      rotate_left
      change wpAnyH _ _ _ _ _ _ #[true, true, true, true, false, false, false, false, false, false, false, false] _ _
      refine wpAnyH_ready (rs := [4, 9]) (by kernel_rfl) (by simp) (AllReadyH.cons rfl (fun K hK => ?_) (AllReadyH.cons rfl (fun K hK => ?_) AllReadyH.nil))
      · skip
        go_simp
        go_at_call 81
        refine (CJ.out W HC.out (Nat.le_trans G4S.out (World.grownBy.size HR.out))).mono ?_
        rintro e W2 ⟨p, s, hj, rfl, hcu, hb⟩
        have HC : Hid (Cur W2 g A n c xs) := Lib.hid (hcu)
        have HJ : Hid (jobB (M : Int) p s = true) := Lib.hid (hj)
        have HR := Lib.hid (grownBy_trans HR.out hb)
        clear hb
        dsimp only
        refine hK.out _ _ (HSF _ HR) (fun _ => ?_)
        clear hK K
        (try simp only [List.setIfInBounds_toArray, List.set_cons_zero, List.set_cons_succ])
        change wpAnyH _ _ _ _ _ _ #[true, true, true, true, true, false, false, false, false, false, false, false] _ _
        exact Grb1_0 W2 p s HR HC HJ
      · skip
        go_simp
        have hb := below_a1 W (.cells #[.int .i64 0, .int .i64 0, .int .i64 0, .bool false, .slice none 0 0, .slice none 0 0, .int .i64 0, .slice none 0 0] 32)
        have HC : Hid (Cur (W.alloc (.cells #[.int .i64 0, .int .i64 0, .int .i64 0, .bool false, .slice none 0 0, .slice none 0 0, .int .i64 0, .slice none 0 0] 32)) g A n c xs) := Lib.hid (HC.out.grow hb)
        have Zq : Hid (Blk (W.alloc (.cells #[.int .i64 0, .int .i64 0, .int .i64 0, .bool false, .slice none 0 0, .slice none 0 0, .int .i64 0, .slice none 0 0] 32)) W.heap.size #[.int .i64 0, .int .i64 0, .int .i64 0, .bool false, .slice none 0 0, .slice none 0 0, .int .i64 0, .slice none 0 0] 32) := Lib.hid (Blk.new W #[.int .i64 0, .int .i64 0, .int .i64 0, .bool false, .slice none 0 0, .slice none 0 0, .int .i64 0, .slice none 0 0] 32)
        have HQq : Hid (W4.heap.size ≤ W.heap.size) := Lib.hid (World.grownBy.size HR.out)
        have HR := Lib.hid (grown_below HR.out hb)
        clear hb
        refine hK.out _ _ (HSF _ HR) (fun _ => ?_)
        clear hK K
        (try simp only [List.setIfInBounds_toArray, List.set_cons_zero, List.set_cons_succ])
        generalize hZ : W.alloc (.cells #[.int .i64 0, .int .i64 0, .int .i64 0, .bool false, .slice none 0 0, .slice none 0 0, .int .i64 0, .slice none 0 0] 32) = W2 at HC Zq HR ⊢
        clear hZ
        generalize hZ : W.heap.size = q at Zq HQq ⊢
        clear hZ
        change wpAnyH _ _ _ _ _ _ #[true, true, true, true, false, false, false, false, false, true, false, false] _ _
        exact Grb0_1 W2 q HR HC Zq HQq
      · intro W q HR HC Zq HQq
        change wpAnyH _ _ _ _ _ _ #[true, true, true, true, false, false, false, false, false, true, false, false] _ _
        refine wpAnyH_ready (rs := [4]) (by kernel_rfl) (by simp) (AllReadyH.cons rfl (fun K hK => ?_) AllReadyH.nil)
        · skip
          go_simp
          go_at_call 81
          refine (CJ.out W HC.out (Nat.le_trans G4S.out (World.grownBy.size HR.out))).mono ?_
          rintro e W2 ⟨p, s, hj, rfl, hcu, hb⟩
          have HC : Hid (Cur W2 g A n c xs) := Lib.hid (hcu)
          have Zq : Hid (Blk W2 q #[.int .i64 0, .int .i64 0, .int .i64 0, .bool false, .slice none 0 0, .slice none 0 0, .int .i64 0, .slice none 0 0] 32) := Lib.hid (Zq.out.grown hb (by intro e; injection e with e; have h1 := HQq.out; omega))
          have HQq : Hid (W4.heap.size ≤ q) := Lib.hid (HQq.out)
          have HJ : Hid (jobB (M : Int) p s = true) := Lib.hid (hj)
          have HR := Lib.hid (grownBy_trans HR.out hb)
          clear hb
          dsimp only
          refine hK.out _ _ (HSF _ HR) (fun _ => ?_)
          clear hK K
          (try simp only [List.setIfInBounds_toArray, List.set_cons_zero, List.set_cons_succ])
          change wpAnyH _ _ _ _ _ _ #[true, true, true, true, true, false, false, false, false, true, false, false] _ _
          exact Grb1_1 W2 p s q HR HC HJ Zq HQq
      · intro W p s HR HC HJ
        change wpAnyH _ _ _ _ _ _ #[true, true, true, true, true, false, false, false, false, false, false, false] _ _
        refine wpAnyH_ready (rs := [5, 9]) (by kernel_rfl) (by simp) (AllReadyH.cons rfl (fun K hK => ?_) (AllReadyH.cons rfl (fun K hK => ?_) AllReadyH.nil))
        · skip
          go_simp
          go_at_call 80
          refine (CR.out p s W HJ.out (SlG.of_own (own_keepG HO4.out HR.out (by omega)) rfl)).mono ?_
          rintro e W2 ⟨A1, c1, B1, d1, C1, k1, rfl, ho, hb⟩
          have HC : Hid (Cur W2 g A n c xs) := Lib.hid (HC.out.grow hb)
          have HJ : Hid (jobB (M : Int) p s = true) := Lib.hid (HJ.out)
          have O : Hid (Rows3 W2 W4.heap.size A1 (nf p s).vs.length c1 B1 (nf p s).ev.length d1 C1 (nf p s).nx.length k1 (nf p s).vs (nf p s).ev (nf p s).nx) := Lib.hid (Rows3.mono ho (World.grownBy.size HR.out))
          have HR := Lib.hid (grown_below HR.out hb)
          clear hb
          dsimp only
          refine hK.out _ _ (HSF _ HR) (fun _ => ?_)
          clear hK K
          (try simp only [List.setIfInBounds_toArray, List.set_cons_zero, List.set_cons_succ])
          refine wpAnyH_take (i := 6) (oi := ⟨_, _, _, _, _, _⟩) (v := .tuple #[.agg #[.int .i64 (nf p s).p, .int .i64 (nf p s).s, .int .i64 (nf p s).it, .bool (nf p s).dn, .slice A1 (nf p s).vs.length c1, .slice B1 (nf p s).ev.length d1, .int .i64 (nf p s).nn, .slice C1 (nf p s).nx.length k1], .bool true]) rfl (by kernel_rfl) (by kernel_rfl) (by kernel_rfl) (fun _ _ _ h => h) (Or.inl ⟨by kernel_rfl, fun W hS => by go_simp⟩) (HSF _ HR) ?_
          (try simp only [Act.put, List.setIfInBounds_toArray, List.set_cons_zero, List.set_cons_succ])
          refine wpAnyH_take (i := 7) (oi := ⟨_, _, _, _, _, _⟩) (v := .agg #[.int .i64 (nf p s).p, .int .i64 (nf p s).s, .int .i64 (nf p s).it, .bool (nf p s).dn, .slice A1 (nf p s).vs.length c1, .slice B1 (nf p s).ev.length d1, .int .i64 (nf p s).nn, .slice C1 (nf p s).nx.length k1]) rfl (by kernel_rfl) (by kernel_rfl) (by kernel_rfl) (fun _ _ _ h => h) (Or.inl ⟨by kernel_rfl, fun W hS => by go_simp⟩) (HSF _ HR) ?_
          (try simp only [Act.put, List.setIfInBounds_toArray, List.set_cons_zero, List.set_cons_succ])
          refine wpAnyH_take (i := 8) (oi := ⟨_, _, _, _, _, _⟩) (v := .bool true) rfl (by kernel_rfl) (by kernel_rfl) (by kernel_rfl) (fun _ _ _ h => h) (Or.inl ⟨by kernel_rfl, fun W hS => by go_simp⟩) (HSF _ HR) ?_
          (try simp only [Act.put, List.setIfInBounds_toArray, List.set_cons_zero, List.set_cons_succ])
          change wpAnyH _ _ _ _ _ _ #[true, true, true, true, true, true, true, true, true, false, false, false] _ _
          exact Grb2_0 W2 p s A1 c1 B1 d1 C1 k1 HR HC HJ O
        · skip
          go_simp
          have hb := below_a1 W (.cells #[.int .i64 0, .int .i64 0, .int .i64 0, .bool false, .slice none 0 0, .slice none 0 0, .int .i64 0, .slice none 0 0] 32)
          have HC : Hid (Cur (W.alloc (.cells #[.int .i64 0, .int .i64 0, .int .i64 0, .bool false, .slice none 0 0, .slice none 0 0, .int .i64 0, .slice none 0 0] 32)) g A n c xs) := Lib.hid (HC.out.grow hb)
          have HJ : Hid (jobB (M : Int) p s = true) := Lib.hid (HJ.out)
          have Zq : Hid (Blk (W.alloc (.cells #[.int .i64 0, .int .i64 0, .int .i64 0, .bool false, .slice none 0 0, .slice none 0 0, .int .i64 0, .slice none 0 0] 32)) W.heap.size #[.int .i64 0, .int .i64 0, .int .i64 0, .bool false, .slice none 0 0, .slice none 0 0, .int .i64 0, .slice none 0 0] 32) := Lib.hid (Blk.new W #[.int .i64 0, .int .i64 0, .int .i64 0, .bool false, .slice none 0 0, .slice none 0 0, .int .i64 0, .slice none 0 0] 32)
          have HQq : Hid (W4.heap.size ≤ W.heap.size) := Lib.hid (World.grownBy.size HR.out)
          have HR := Lib.hid (grown_below HR.out hb)
          clear hb
          refine hK.out _ _ (HSF _ HR) (fun _ => ?_)
          clear hK K
          (try simp only [List.setIfInBounds_toArray, List.set_cons_zero, List.set_cons_succ])
          generalize hZ : W.alloc (.cells #[.int .i64 0, .int .i64 0, .int .i64 0, .bool false, .slice none 0 0, .slice none 0 0, .int .i64 0, .slice none 0 0] 32) = W2 at HC Zq HR ⊢
          clear hZ
          generalize hZ : W.heap.size = q at Zq HQq ⊢
          clear hZ
          change wpAnyH _ _ _ _ _ _ #[true, true, true, true, true, false, false, false, false, true, false, false] _ _
          exact Grb1_1 W2 p s q HR HC HJ Zq HQq
      · intro W p s q HR HC HJ Zq HQq
        change wpAnyH _ _ _ _ _ _ #[true, true, true, true, true, false, false, false, false, true, false, false] _ _
        refine wpAnyH_ready (rs := [5]) (by kernel_rfl) (by simp) (AllReadyH.cons rfl (fun K hK => ?_) AllReadyH.nil)
        · skip
          go_simp
          go_at_call 80
          refine (CR.out p s W HJ.out (SlG.of_own (own_keepG HO4.out HR.out (by omega)) rfl)).mono ?_
          rintro e W2 ⟨A1, c1, B1, d1, C1, k1, rfl, ho, hb⟩
          have HC : Hid (Cur W2 g A n c xs) := Lib.hid (HC.out.grow hb)
          have HJ : Hid (jobB (M : Int) p s = true) := Lib.hid (HJ.out)
          have Zq : Hid (Blk W2 q #[.int .i64 0, .int .i64 0, .int .i64 0, .bool false, .slice none 0 0, .slice none 0 0, .int .i64 0, .slice none 0 0] 32) := Lib.hid (Zq.out.below hb)
          have HQq : Hid (W4.heap.size ≤ q) := Lib.hid (HQq.out)
          have O : Hid (Rows3 W2 W4.heap.size A1 (nf p s).vs.length c1 B1 (nf p s).ev.length d1 C1 (nf p s).nx.length k1 (nf p s).vs (nf p s).ev (nf p s).nx) := Lib.hid (Rows3.mono ho (World.grownBy.size HR.out))
          have HR := Lib.hid (grown_below HR.out hb)
          clear hb
          dsimp only
          refine hK.out _ _ (HSF _ HR) (fun _ => ?_)
          clear hK K
          (try simp only [List.setIfInBounds_toArray, List.set_cons_zero, List.set_cons_succ])
          refine wpAnyH_take (i := 6) (oi := ⟨_, _, _, _, _, _⟩) (v := .tuple #[.agg #[.int .i64 (nf p s).p, .int .i64 (nf p s).s, .int .i64 (nf p s).it, .bool (nf p s).dn, .slice A1 (nf p s).vs.length c1, .slice B1 (nf p s).ev.length d1, .int .i64 (nf p s).nn, .slice C1 (nf p s).nx.length k1], .bool true]) rfl (by kernel_rfl) (by kernel_rfl) (by kernel_rfl) (fun _ _ _ h => h) (Or.inl ⟨by kernel_rfl, fun W hS => by go_simp⟩) (HSF _ HR) ?_
          (try simp only [Act.put, List.setIfInBounds_toArray, List.set_cons_zero, List.set_cons_succ])
          refine wpAnyH_take (i := 7) (oi := ⟨_, _, _, _, _, _⟩) (v := .agg #[.int .i64 (nf p s).p, .int .i64 (nf p s).s, .int .i64 (nf p s).it, .bool (nf p s).dn, .slice A1 (nf p s).vs.length c1, .slice B1 (nf p s).ev.length d1, .int .i64 (nf p s).nn, .slice C1 (nf p s).nx.length k1]) rfl (by kernel_rfl) (by kernel_rfl) (by kernel_rfl) (fun _ _ _ h => h) (Or.inl ⟨by kernel_rfl, fun W hS => by go_simp⟩) (HSF _ HR) ?_
          (try simp only [Act.put, List.setIfInBounds_toArray, List.set_cons_zero, List.set_cons_succ])
          refine wpAnyH_take (i := 8) (oi := ⟨_, _, _, _, _, _⟩) (v := .bool true) rfl (by kernel_rfl) (by kernel_rfl) (by kernel_rfl) (fun _ _ _ h => h) (Or.inl ⟨by kernel_rfl, fun W hS => by go_simp⟩) (HSF _ HR) ?_
          (try simp only [Act.put, List.setIfInBounds_toArray, List.set_cons_zero, List.set_cons_succ])
          change wpAnyH _ _ _ _ _ _ #[true, true, true, true, true, true, true, true, true, true, false, false] _ _
          exact Grb2_1 W2 p s A1 c1 B1 d1 C1 k1 q HR HC HJ O Zq HQq
      · intro W p s A1 c1 B1 d1 C1 k1 HR HC HJ O
        change wpAnyH _ _ _ _ _ _ #[true, true, true, true, true, true, true, true, true, false, false, false] _ _
        refine wpAnyH_ready (rs := [9]) (by kernel_rfl) (by simp) (AllReadyH.cons rfl (fun K hK => ?_) AllReadyH.nil)
        · skip
          go_simp
          have hb := below_a1 W (.cells #[.int .i64 0, .int .i64 0, .int .i64 0, .bool false, .slice none 0 0, .slice none 0 0, .int .i64 0, .slice none 0 0] 32)
          have HC : Hid (Cur (W.alloc (.cells #[.int .i64 0, .int .i64 0, .int .i64 0, .bool false, .slice none 0 0, .slice none 0 0, .int .i64 0, .slice none 0 0] 32)) g A n c xs) := Lib.hid (HC.out.grow hb)
          have HJ : Hid (jobB (M : Int) p s = true) := Lib.hid (HJ.out)
          have O : Hid (Rows3 (W.alloc (.cells #[.int .i64 0, .int .i64 0, .int .i64 0, .bool false, .slice none 0 0, .slice none 0 0, .int .i64 0, .slice none 0 0] 32)) W4.heap.size A1 (nf p s).vs.length c1 B1 (nf p s).ev.length d1 C1 (nf p s).nx.length k1 (nf p s).vs (nf p s).ev (nf p s).nx) := Lib.hid (O.out.below hb)
          have Zq : Hid (Blk (W.alloc (.cells #[.int .i64 0, .int .i64 0, .int .i64 0, .bool false, .slice none 0 0, .slice none 0 0, .int .i64 0, .slice none 0 0] 32)) W.heap.size #[.int .i64 0, .int .i64 0, .int .i64 0, .bool false, .slice none 0 0, .slice none 0 0, .int .i64 0, .slice none 0 0] 32) := Lib.hid (Blk.new W #[.int .i64 0, .int .i64 0, .int .i64 0, .bool false, .slice none 0 0, .slice none 0 0, .int .i64 0, .slice none 0 0] 32)
          have HQq : Hid (W4.heap.size ≤ W.heap.size) := Lib.hid (World.grownBy.size HR.out)
          have HR := Lib.hid (grown_below HR.out hb)
          clear hb
          refine hK.out _ _ (HSF _ HR) (fun _ => ?_)
          clear hK K
          (try simp only [List.setIfInBounds_toArray, List.set_cons_zero, List.set_cons_succ])
          generalize hZ : W.alloc (.cells #[.int .i64 0, .int .i64 0, .int .i64 0, .bool false, .slice none 0 0, .slice none 0 0, .int .i64 0, .slice none 0 0] 32) = W2 at HC O Zq HR ⊢
          clear hZ
          generalize hZ : W.heap.size = q at Zq HQq ⊢
          clear hZ
          change wpAnyH _ _ _ _ _ _ #[true, true, true, true, true, true, true, true, true, true, false, false] _ _
          exact Grb2_1 W2 p s A1 c1 B1 d1 C1 k1 q HR HC HJ O Zq HQq
      · intro W p s A1 c1 B1 d1 C1 k1 q HR HC HJ O Zq HQq
        change wpAnyH _ _ _ _ _ _ #[true, true, true, true, true, true, true, true, true, true, false, false] _ _
        refine wpAnyH_ready (rs := [10]) (by kernel_rfl) (by simp) (AllReadyH.cons rfl (fun K hK => ?_) AllReadyH.nil)
        obtain ⟨zl, z0, z1, z2, z3, z4, z5, z6, z7⟩ := Zq.out.eight
        obtain ⟨f0, f1, f2, f3, f4, f5, f6, f7⟩ := Zq.out.eightF
        go_simp
        clear z0 z1 z2 z3 z4 z5 z6 z7 f0 f1 f2 f3 f4 f5 f6 f7
        have hgr := layR_grown W q (.int .i64 (nf p s).p) (.int .i64 (nf p s).s) (.int .i64 (nf p s).it) (.bool (nf p s).dn) (.slice A1 (nf p s).vs.length c1) (.slice B1 (nf p s).ev.length d1) (.int .i64 (nf p s).nn) (.slice C1 (nf p s).nx.length k1)
        have hqq := HQq.out
        have hbl := HB4.out.lt
        have EB := Lib.hid ((HB4.out.grown HR.out (by intro e; injection e with e; omega)).grown hgr (by intro e; injection e with e; omega))
        refine hK.out _ _ ⟨EB.out.cell (i := 0) rfl, EB.out.cell (i := 1) rfl⟩ (fun _ => ?_)
        clear hK K
        (try simp only [List.setIfInBounds_toArray, List.set_cons_zero, List.set_cons_succ])
        refine wpAnyH_take (i := 11) (oi := ⟨_, _, _, _, _, _⟩) (v := .bool true) rfl (by kernel_rfl) (by kernel_rfl) (by kernel_rfl) (fun _ _ _ h => h) (Or.inl ⟨by kernel_rfl, fun W hS => by go_simp⟩) ⟨EB.out.cell (i := 0) rfl, EB.out.cell (i := 1) rfl⟩ ?_
        (try simp only [Act.put, List.setIfInBounds_toArray, List.set_cons_zero, List.set_cons_succ])
        refine wpAnyH_done (by kernel_rfl) ?_ _
        go_wp2_with fail
        go_meet
        exact ⟨q, p, s, A1, c1, B1, d1, C1, k1, rfl, rfl, HJ, Lib.hid (grownBy_far HR.out hgr (fun k hk => by injection hk with hk; omega)), Lib.hid (HC.out.far (B := w.heap.size) hgr (fun k hk => by injection hk with hk; omega) hg HA.out), Lib.hid (layR_blk Zq.out), Lib.hid (O.out.past hgr Zq.out (by decide) (by decide)), Lib.hid ⟨HQq.out, Nat.lt_of_lt_of_le zl hgr.size⟩⟩
    case rest =>
      rename World => W5
      obtain ⟨q, p, s, A1, c1, B1, d1, C1, k1, rfl, rfl, hj, hgw, hcu, hrb, hr5, hq5⟩ := hcut
      have HJ := Lib.hid hj.out
      have hqq := hq5.out
      have hbl := HB4.out.lt
      have hy1 := Y14.out.lt
      have hy2 := Y24.out.lt
      have hrow : Rows3 W5 (w.heap.size + 2) A1 (nf p s).vs.length c1 B1 (nf p s).ev.length d1 C1 (nf p s).nx.length k1 (nf p s).vs (nf p s).ev (nf p s).nx := hr5.out.mono (by omega)
      have hb : Below W5.heap.size W5 W5.drew := (Below.refl _ _).drew
      have HG := Lib.hid (grown_below (grownBy_trans G4.out hgw.out) hb)
      have HB := Lib.hid ((HB4.out.grown hgw.out (by intro e; injection e with e; omega)).below hb)
      have HO := Lib.hid (own_below (own_keepG HO4.out hgw.out (by omega)) hb)
      have Y1 := Lib.hid ((Y14.out.grown hgw.out (by intro e; injection e with e; omega)).below hb)
      have Y2 := Lib.hid ((Y24.out.grown hgw.out (by intro e; injection e with e; omega)).below hb)
      have HC := Lib.hid (hcu.out.grow hb)
      have HRB := Lib.hid (hrb.out.below hb)
      have HRO := Lib.hid (hrow.below hb)
      have hrun : RunP M es (nf p s) ∧ SmallR (nf p s) := by rw [HNF.out]; exact ⟨newR_ok HGB.out HJ.out, newR_small p s⟩
      obtain ⟨af, haf⟩ : ∃ af : Nat → RD, af = allR (M : Int) es (nf p s) := ⟨_, rfl⟩
      have CA := Lib.hid (fun (k : Nat) (W : World) (hs : SlG W B es.length es) (hst : Rows3 W (w.heap.size + 2) A1 (nf p s).vs.length c1 B1 (nf p s).ev.length d1 C1 (nf p s).nx.length k1 (nf p s).vs (nf p s).ev (nf p s).nx) => (by rw [haf]; exact specAllR M B d es (nf p s) k A1 c1 B1 d1 C1 k1 _ W hrun.1 hrun.2 hs hl hst : Calls Tryz.prog 11 #[.agg #[.int .i64 (M : Int), .slice B es.length d], .agg #[.int .i64 (nf p s).p, .int .i64 (nf p s).s, .int .i64 (nf p s).it, .bool (nf p s).dn, .slice A1 (nf p s).vs.length c1, .slice B1 (nf p s).ev.length d1, .int .i64 (nf p s).nn, .slice C1 (nf p s).nx.length k1], .int .i64 (k : Int)] W (MadeRO W (af k))))
      unfold MadeRO at CA
      have CB := Lib.hid (fun W (hc : Cur W g A n c xs) => drawBelow g A n c 4 xs W hc (by omega) (by omega))
      have HAF : Hid (af = allR (M : Int) es (newR (M : Int) es p s)) := Lib.hid (by rw [haf, HNF.out])
      clear hb hgw hcu hrb hr5 hq5 hrow hrun haf hj CJ CR HB4 HO4 G4 Y14 Y24 HC4
      go_upto_region 5 with fail
      refine wp_region_any (by kernel_rfl) ?_
      change wpAny _ _ _ _ _ _ _ (World.drew _)
      refine wpAny_of_held (S := fun W => W.cell? ⟨w1.heap.size, 0, none⟩ = some (.int .i64 (M : Int)) ∧ W.cell? ⟨w1.heap.size, 1, none⟩ = some (.slice B es.length d) ∧ W.cell? ⟨q, 0, none⟩ = some (.int .i64 (nf p s).p) ∧ W.cell? ⟨q, 1, none⟩ = some (.int .i64 (nf p s).s) ∧ W.cell? ⟨q, 2, none⟩ = some (.int .i64 (nf p s).it) ∧ W.cell? ⟨q, 3, none⟩ = some (.bool (nf p s).dn) ∧ W.cell? ⟨q, 4, none⟩ = some (.slice A1 (nf p s).vs.length c1) ∧ W.cell? ⟨q, 5, none⟩ = some (.slice B1 (nf p s).ev.length d1) ∧ W.cell? ⟨q, 6, none⟩ = some (.int .i64 (nf p s).nn) ∧ W.cell? ⟨q, 7, none⟩ = some (.slice C1 (nf p s).nx.length k1)) _ _ _ _ ?_
      generalize hDD : World.drew W5 = wd at HG HB HO Y1 Y2 HC HRB HRO ⊢
      clear hDD
      refine wpAnyH_take (i := 0) (oi := ⟨_, _, _, _, _, _⟩) (v := .agg #[.int .i64 (M : Int), .slice B es.length d]) rfl (by kernel_rfl) (by kernel_rfl) (by kernel_rfl) (fun _ _ _ h => h) (Or.inl ⟨by kernel_rfl, fun W hS => by (obtain ⟨s0, s1, s2, s3, s4, s5, s6, s7, s8, s9⟩ := hS); go_simp⟩) ⟨HB.out.cell (i := 0) rfl, HB.out.cell (i := 1) rfl, HRB.out.cell (i := 0) rfl, HRB.out.cell (i := 1) rfl, HRB.out.cell (i := 2) rfl, HRB.out.cell (i := 3) rfl, HRB.out.cell (i := 4) rfl, HRB.out.cell (i := 5) rfl, HRB.out.cell (i := 6) rfl, HRB.out.cell (i := 7) rfl⟩ ?_
      (try simp only [Act.put, List.setIfInBounds_toArray, List.set_cons_zero, List.set_cons_succ])
      refine wpAnyH_take (i := 1) (oi := ⟨_, _, _, _, _, _⟩) (v := .agg #[.int .i64 (M : Int), .slice B es.length d]) rfl (by kernel_rfl) (by kernel_rfl) (by kernel_rfl) (fun _ _ _ h => h) (Or.inl ⟨by kernel_rfl, fun W hS => by (obtain ⟨s0, s1, s2, s3, s4, s5, s6, s7, s8, s9⟩ := hS); go_simp⟩) ⟨HB.out.cell (i := 0) rfl, HB.out.cell (i := 1) rfl, HRB.out.cell (i := 0) rfl, HRB.out.cell (i := 1) rfl, HRB.out.cell (i := 2) rfl, HRB.out.cell (i := 3) rfl, HRB.out.cell (i := 4) rfl, HRB.out.cell (i := 5) rfl, HRB.out.cell (i := 6) rfl, HRB.out.cell (i := 7) rfl⟩ ?_
      (try simp only [Act.put, List.setIfInBounds_toArray, List.set_cons_zero, List.set_cons_succ])
      refine wpAnyH_take (i := 2) (oi := ⟨_, _, _, _, _, _⟩) (v := .agg #[.int .i64 (nf p s).p, .int .i64 (nf p s).s, .int .i64 (nf p s).it, .bool (nf p s).dn, .slice A1 (nf p s).vs.length c1, .slice B1 (nf p s).ev.length d1, .int .i64 (nf p s).nn, .slice C1 (nf p s).nx.length k1]) rfl (by kernel_rfl) (by kernel_rfl) (by kernel_rfl) (fun _ _ _ h => h) (Or.inl ⟨by kernel_rfl, fun W hS => by (obtain ⟨s0, s1, s2, s3, s4, s5, s6, s7, s8, s9⟩ := hS); go_simp⟩) ⟨HB.out.cell (i := 0) rfl, HB.out.cell (i := 1) rfl, HRB.out.cell (i := 0) rfl, HRB.out.cell (i := 1) rfl, HRB.out.cell (i := 2) rfl, HRB.out.cell (i := 3) rfl, HRB.out.cell (i := 4) rfl, HRB.out.cell (i := 5) rfl, HRB.out.cell (i := 6) rfl, HRB.out.cell (i := 7) rfl⟩ ?_
      (try simp only [Act.put, List.setIfInBounds_toArray, List.set_cons_zero, List.set_cons_succ])
      refine wpAnyH_take (i := 3) (oi := ⟨_, _, _, _, _, _⟩) (v := .pointer (some ⟨g, 0, none⟩)) rfl (by kernel_rfl) (by kernel_rfl) (by kernel_rfl) (fun _ _ _ h => h) (Or.inl ⟨by kernel_rfl, fun W hS => by (obtain ⟨s0, s1, s2, s3, s4, s5, s6, s7, s8, s9⟩ := hS); go_simp⟩) ⟨HB.out.cell (i := 0) rfl, HB.out.cell (i := 1) rfl, HRB.out.cell (i := 0) rfl, HRB.out.cell (i := 1) rfl, HRB.out.cell (i := 2) rfl, HRB.out.cell (i := 3) rfl, HRB.out.cell (i := 4) rfl, HRB.out.cell (i := 5) rfl, HRB.out.cell (i := 6) rfl, HRB.out.cell (i := 7) rfl⟩ ?_
      (try simp only [Act.put, List.setIfInBounds_toArray, List.set_cons_zero, List.set_cons_succ])
      refine wpAnyH_ready (rs := [4]) (by kernel_rfl) (by simp) (AllReadyH.cons rfl (fun K hK => ?_) AllReadyH.nil)
      go_simp
      go_at_call 82
      refine (CB.out _ HC.out).mono ?_
      rintro e w6 ⟨k, hk, rfl, hcu, hgr⟩
      replace HG := Lib.hid (grownBy_trans HG.out hgr)
      replace HB := Lib.hid (HB.out.grown hgr (by intro e; injection e with e; omega))
      replace HO := Lib.hid (own_keepG HO.out hgr (by omega))
      replace Y1 := Lib.hid (Y1.out.grown hgr (by intro e; injection e with e; omega))
      replace Y2 := Lib.hid (Y2.out.grown hgr (by intro e; injection e with e; omega))
      replace HRB := Lib.hid (HRB.out.grown hgr (by intro e; injection e with e; omega))
      replace HRO := Lib.hid (HRO.out.keep hgr (by omega))
      replace HC := Lib.hid hcu
      clear hcu hgr CB
      dsimp only
      refine hK.out _ _ ⟨HB.out.cell (i := 0) rfl, HB.out.cell (i := 1) rfl, HRB.out.cell (i := 0) rfl, HRB.out.cell (i := 1) rfl, HRB.out.cell (i := 2) rfl, HRB.out.cell (i := 3) rfl, HRB.out.cell (i := 4) rfl, HRB.out.cell (i := 5) rfl, HRB.out.cell (i := 6) rfl, HRB.out.cell (i := 7) rfl⟩ (fun _ => ?_)
      clear hK K
      (try simp only [Act.put, List.setIfInBounds_toArray, List.set_cons_zero, List.set_cons_succ])
      refine wpAnyH_ready (rs := [5]) (by kernel_rfl) (by simp) (AllReadyH.cons rfl (fun K hK => ?_) AllReadyH.nil)
      go_simp
      go_at_call 11
      refine (CA.out k _ (SlG.of_own HO.out rfl) HRO.out).mono ?_
      rintro e w7 ⟨A2, c2, B2, d2, C2, k2, rfl, hr7, hb⟩
      have HR7 := Lib.hid (hr7.mono (lo' := w.heap.size) HG.out.size)
      replace HG := Lib.hid (grown_below HG.out hb)
      replace HB := Lib.hid (HB.out.below hb)
      replace HO := Lib.hid (own_below HO.out hb)
      replace Y1 := Lib.hid (Y1.out.below hb)
      replace Y2 := Lib.hid (Y2.out.below hb)
      replace HRB := Lib.hid (HRB.out.below hb)
      replace HC := Lib.hid (HC.out.grow hb)
      clear hr7 hb CA HRO
      dsimp only
      refine hK.out _ _ ⟨HB.out.cell (i := 0) rfl, HB.out.cell (i := 1) rfl, HRB.out.cell (i := 0) rfl, HRB.out.cell (i := 1) rfl, HRB.out.cell (i := 2) rfl, HRB.out.cell (i := 3) rfl, HRB.out.cell (i := 4) rfl, HRB.out.cell (i := 5) rfl, HRB.out.cell (i := 6) rfl, HRB.out.cell (i := 7) rfl⟩ (fun _ => ?_)
      clear hK K
      (try simp only [Act.put, List.setIfInBounds_toArray, List.set_cons_zero, List.set_cons_succ])
      refine wpAnyH_ready (rs := [6]) (by kernel_rfl) (by simp) (AllReadyH.cons rfl (fun K hK => ?_) AllReadyH.nil)
      have a0 := Y1.out.cell (i := 0) rfl
      have a1 := Y1.out.cell (i := 1) rfl
      have af' := fun i => Y1.out.frozen i
      have al := Y1.out.lt
      go_simp
      clear a0 a1 af' al
      have hgs := set2_grown w7 w.heap.size 0 1 (.int .i64 (M : Int)) (.slice B es.length d)
      have HR7' := Lib.hid (HR7.out.past hgs Y1.out (by decide) (by decide))
      have HO' := Lib.hid (own_kept HO.out hgs (own_kind HO.out Y1.out (by decide)))
      have HC' := Lib.hid (HC.out.far (B := w.heap.size) hgs (fun k hk => by injection hk with hk; omega) hg HA.out)
      have HG' := Lib.hid (grownBy_far HG.out hgs (fun k hk => by injection hk with hk; omega))
      replace HB := Lib.hid (HB.out.grown hgs (by intro e; injection e with e; omega))
      replace HRB := Lib.hid (HRB.out.grown hgs (by intro e; injection e with e; omega))
      replace Y2 := Lib.hid (Y2.out.grown hgs (by intro e; injection e with e; omega))
      have Y1' := Lib.hid (Blk.set (Blk.set Y1.out 0 (.int .i64 (M : Int))) 1 (.slice B es.length d))
      clear HR7 HO HC HG Y1 hgs
      generalize hWW : (w7.setCell ⟨w.heap.size, 0, none⟩ (.int .i64 (M : Int))).setCell ⟨w.heap.size, 1, none⟩ (.slice B es.length d) = w8 at HR7' HO' HC' HG' HB HRB Y2 Y1' ⊢
      clear hWW
      refine hK.out _ _ ⟨HB.out.cell (i := 0) rfl, HB.out.cell (i := 1) rfl, HRB.out.cell (i := 0) rfl, HRB.out.cell (i := 1) rfl, HRB.out.cell (i := 2) rfl, HRB.out.cell (i := 3) rfl, HRB.out.cell (i := 4) rfl, HRB.out.cell (i := 5) rfl, HRB.out.cell (i := 6) rfl, HRB.out.cell (i := 7) rfl⟩ (fun _ => ?_)
      clear hK K
      (try simp only [Act.put])
      refine wpAnyH_ready (rs := [7]) (by kernel_rfl) (by simp) (AllReadyH.cons rfl (fun K hK => ?_) AllReadyH.nil)
      obtain ⟨al, a0, a1, a2, a3, a4, a5, a6, a7⟩ := Y2.out.eight
      have af' := fun i => Y2.out.frozen i
      go_simp
      clear a0 a1 a2 a3 a4 a5 a6 a7 af' al
      have hgs := layR_grown w8 (w.heap.size + 1) (.int .i64 (af k).p) (.int .i64 (af k).s) (.int .i64 (af k).it) (.bool (af k).dn) (.slice A2 (af k).vs.length c2) (.slice B2 (af k).ev.length d2) (.int .i64 (af k).nn) (.slice C2 (af k).nx.length k2)
      have HR8 := Lib.hid (HR7'.out.past hgs Y2.out (by decide) (by decide))
      have HO8 := Lib.hid (own_kept HO'.out hgs (own_kind HO'.out Y2.out (by decide)))
      have HC8 := Lib.hid (HC'.out.far (B := w.heap.size) hgs (fun k hk => by injection hk with hk; omega) hg HA.out)
      have HG8 := Lib.hid (grownBy_far HG'.out hgs (fun k hk => by injection hk with hk; omega))
      replace HB := Lib.hid (HB.out.grown hgs (by intro e; injection e with e; omega))
      replace HRB := Lib.hid (HRB.out.grown hgs (by intro e; injection e with e; omega))
      have Y18 := Lib.hid (Y1'.out.grown hgs (by intro e; injection e with e; omega))
      have Y28 := Lib.hid (layR_blk (x0 := .int .i64 (af k).p) (x1 := .int .i64 (af k).s) (x2 := .int .i64 (af k).it) (x3 := .bool (af k).dn) (x4 := .slice A2 (af k).vs.length c2) (x5 := .slice B2 (af k).ev.length d2) (x6 := .int .i64 (af k).nn) (x7 := .slice C2 (af k).nx.length k2) Y2.out)
      clear hgs
      refine hK.out _ _ ⟨HB.out.cell (i := 0) rfl, HB.out.cell (i := 1) rfl, HRB.out.cell (i := 0) rfl, HRB.out.cell (i := 1) rfl, HRB.out.cell (i := 2) rfl, HRB.out.cell (i := 3) rfl, HRB.out.cell (i := 4) rfl, HRB.out.cell (i := 5) rfl, HRB.out.cell (i := 6) rfl, HRB.out.cell (i := 7) rfl⟩ (fun _ => ?_)
      clear hK K
      (try simp only [Act.put])
      refine wpAnyH_done (by kernel_rfl) ?_ _
      go_wp2
      obtain ⟨-, y0, y1, y2, y3, y4, y5, y6, y7⟩ := Y28.out.eight
      have u0 := Y18.out.cell (i := 0) rfl
      have u1 := Y18.out.cell (i := 1) rfl
      unfold layR at y0 y1 y2 y3 y4 y5 y6 y7 u0 u1
      refine bodyPost_ret (v := .tuple #[.agg #[.int .i64 (M : Int), .slice B es.length d], .agg #[.int .i64 (af k).p, .int .i64 (af k).s, .int .i64 (af k).it, .bool (af k).dn, .slice A2 (af k).vs.length c2, .slice B2 (af k).ev.length d2, .int .i64 (af k).nn, .slice C2 (af k).nx.length k2]]) (by simp [results, Tryz.results43, go_sem, y0, y1, y2, y3, y4, y5, y6, y7, u0, u1]) rfl ?_
      exact ⟨M, es, B, d, p, s, k, af k, A2, c2, B2, d2, C2, k2, ⟨hM8.1, hk, HGB.out, HJ.out, hl, by rw [HAF.out]⟩, rfl, own_monoG HO8.out (by omega), HR8.out, HC8.out, HG8.out⟩
end Go.Proofs.YtlhcobkncceodaaGreatDoor
