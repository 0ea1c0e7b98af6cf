/- The program's copy of a farm. Condition: at most 2^20 ends, shards and edges of a shard. -/
import Derived.Test.YtpgnappddddlpaaCGK
import Derived.Deep.DeepCutAuto
import Derived.Deep.RegionHeld3
import Derived.Deep.RegionWith
namespace Go.Proofs.Ytpgnappddddlpaa
open Go.RowKit
set_option linter.unusedVariables false

theorem held_nameC {P : Program} {md : Region.Mode} {ops : Array Oper} {Q : Exit → Act → World → Prop} {S : World → Prop} {fuel : Nat} {listed : Array Bool} {a : Act} {w : World} (hS : S w) (h : S w → wpAnyH P md ops Q S fuel listed a w) : wpAnyH P md ops Q S fuel listed a w := h hS
/-- The edges of one shard of a row are laid anew. -/
theorem he_edges {w : World} {lo ty g c n k : Nat} {made rest : List HE} {x : HE} (A' : Option Addr) (c' : Nat) (h : w.ownsRow lo ty 3 (.slice (some ⟨g, 0, none⟩) n c) n ((made ++ x :: rest).flatMap HE.cells)) (hm : made.length = k) :
    (w.setCell ⟨g, k * 3 + 2, none⟩ (.slice A' x.n c')).ownsRow lo ty 3 (.slice (some ⟨g, 0, none⟩) n c) n ((made ++ (⟨x.lo, x.hi, A', x.n, c', x.es⟩ : HE) :: rest).flatMap HE.cells) ∧ w.grownBy (w.setCell ⟨g, k * 3 + 2, none⟩ (.slice A' x.n c')) (some g) := by
  have h1 := h.stored (k * 3 + 2) (.slice A' x.n c')
  have e1 := flat_set HE.cells 3 HE.cells_len (made ++ x :: rest) k 2 x ⟨x.lo, x.hi, A', x.n, c', x.es⟩ (.slice A' x.n c') (g_get _ _ _ _ hm) (by omega) rfl
  rw [g_set _ _ _ _ _ hm] at e1
  rw [e1] at h1
  exact h1
set_option maxRecDepth 20000 in
set_option maxHeartbeats 8000000 in
theorem implCopyFarm (N : Int) (A : Option Addr) (n c : Nat) (E : List Int) (B : Option Addr) (m d : Nat) (bs : List HE) (w : World) (hA : SlI w A n E) (hB : SlH w B m bs) (hn : n ≤ 1048576) (hm : m ≤ 1048576) (hs : ∀ e ∈ bs, e.n ≤ 1048576) :
    Calls Try.prog 61 #[.agg #[.int .i64 N, .slice A n c, .slice B m d]] w (MadeF w N E (sdL bs)) := by
  have CC := Lib.hid (fun W (h : Below w.heap.size w W) => cloneI A n c E W (hA.below h) hn)
  have CH := Lib.hid (fun W (h : Below w.heap.size w W) => cloneH B m d bs W (hB.below h) hm)
  unfold RowR at CC CH
  have HB := Lib.hid hB
  have HL := Lib.hid hB.len
  have HLE := Lib.hid hA.len
  have HS := Lib.hid hs
  clear hA hB hs
  have H_1 := Lib.hid (g_chain (g_chain (Below.refl w.heap.size w) (below_a1 w (.cells #[.int .i64 N, .slice A n c, .slice B m d] 26))) (below_a1 (w.alloc (.cells #[.int .i64 N, .slice A n c, .slice B m d] 26)) (.cells #[.int .i64 0, .slice none 0 0, .slice none 0 0] 26)))
  have BX_2 : Hid (Blk ((w.alloc (.cells #[.int .i64 N, .slice A n c, .slice B m d] 26)).alloc (.cells #[.int .i64 0, .slice none 0 0, .slice none 0 0] 26)) (w.heap.size) #[.int .i64 N, .slice A n c, .slice B m d] 26) := Lib.hid (by have h := (Blk.new w #[.int .i64 N, .slice A n c, .slice B m d] 26).alloc (.cells #[.int .i64 0, .slice none 0 0, .slice none 0 0] 26); simpa [Nat.add_assoc] using h)
  have BZ_3 : Hid (Blk ((w.alloc (.cells #[.int .i64 N, .slice A n c, .slice B m d] 26)).alloc (.cells #[.int .i64 0, .slice none 0 0, .slice none 0 0] 26)) (w.heap.size + 1) #[.int .i64 0, .slice none 0 0, .slice none 0 0] 26) := Lib.hid (by have h := Blk.new (w.alloc (.cells #[.int .i64 N, .slice A n c, .slice B m d] 26)) #[.int .i64 0, .slice none 0 0, .slice none 0 0] 26; simpa [Nat.add_assoc] using h)
  have sz0 : Hid (w.heap.size + 2 ≤ ((w.alloc (.cells #[.int .i64 N, .slice A n c, .slice B m d] 26)).alloc (.cells #[.int .i64 0, .slice none 0 0, .slice none 0 0] 26)).heap.size) := Lib.hid (by simp)
  go_enter Try.func61, Try.ntmps61
  go_upto_region 1 with fail
  go_cut [3] (fun (sa : Value) (wx : World) => ∃ (q : Nat) (A2 : Option Addr) (c2 : Nat) (P : Option Addr) (c3 : Nat), sa = .pointer (some ⟨q, 0, none⟩) ∧ Hid (Below ((w.alloc (.cells #[.int .i64 N, .slice A n c, .slice B m d] 26)).alloc (.cells #[.int .i64 0, .slice none 0 0, .slice none 0 0] 26)).heap.size ((w.alloc (.cells #[.int .i64 N, .slice A n c, .slice B m d] 26)).alloc (.cells #[.int .i64 0, .slice none 0 0, .slice none 0 0] 26)) wx) ∧ Hid (Blk wx q #[.int .i64 N, .slice A2 n c2, .slice P m c3] 26) ∧ Hid (wx.ownsRow ((w.alloc (.cells #[.int .i64 N, .slice A n c, .slice B m d] 26)).alloc (.cells #[.int .i64 0, .slice none 0 0, .slice none 0 0] 26)).heap.size 3 1 (.slice A2 n c2) n (vi E)) ∧ Hid (wx.ownsRow ((w.alloc (.cells #[.int .i64 N, .slice A n c, .slice B m d] 26)).alloc (.cells #[.int .i64 0, .slice none 0 0, .slice none 0 0] 26)).heap.size 85 3 (.slice P m c3) m (bs.flatMap HE.cells)) ∧ Hid (((w.alloc (.cells #[.int .i64 N, .slice A n c, .slice B m d] 26)).alloc (.cells #[.int .i64 0, .slice none 0 0, .slice none 0 0] 26)).heap.size ≤ q ∧ q < wx.heap.size))
  case first =>
    have HSF : ∀ W, Hid (Below ((w.alloc (.cells #[.int .i64 N, .slice A n c, .slice B m d] 26)).alloc (.cells #[.int .i64 0, .slice none 0 0, .slice none 0 0] 26)).heap.size ((w.alloc (.cells #[.int .i64 N, .slice A n c, .slice B m d] 26)).alloc (.cells #[.int .i64 0, .slice none 0 0, .slice none 0 0] 26)) W) → (W.cell? ⟨w.heap.size, 0, none⟩ = some (.int .i64 N) ∧ W.cell? ⟨w.heap.size, 1, none⟩ = some (.slice A n c) ∧ W.cell? ⟨w.heap.size, 2, none⟩ = some (.slice B m d)) := fun W HR => ⟨(BX_2.out.below HR.out).cell (i := 0) rfl, (BX_2.out.below HR.out).cell (i := 1) rfl, (BX_2.out.below HR.out).cell (i := 2) rfl⟩
    have HR : Hid (Below ((w.alloc (.cells #[.int .i64 N, .slice A n c, .slice B m d] 26)).alloc (.cells #[.int .i64 0, .slice none 0 0, .slice none 0 0] 26)).heap.size ((w.alloc (.cells #[.int .i64 N, .slice A n c, .slice B m d] 26)).alloc (.cells #[.int .i64 0, .slice none 0 0, .slice none 0 0] 26)) ((w.alloc (.cells #[.int .i64 N, .slice A n c, .slice B m d] 26)).alloc (.cells #[.int .i64 0, .slice none 0 0, .slice none 0 0] 26)).drew) := Lib.hid (Below.refl _ _).drew
    refine wp_region_any (by kernel_rfl) ?_
    change wpAny _ _ _ _ _ _ _ (World.drew _)
    refine wpAny_of_held (S := fun W => W.cell? ⟨w.heap.size, 0, none⟩ = some (.int .i64 N) ∧ W.cell? ⟨w.heap.size, 1, none⟩ = some (.slice A n c) ∧ W.cell? ⟨w.heap.size, 2, none⟩ = some (.slice B m d)) _ _ _ _ ?_
    generalize hDD : World.drew ((w.alloc (.cells #[.int .i64 N, .slice A n c, .slice B m d] 26)).alloc (.cells #[.int .i64 0, .slice none 0 0, .slice none 0 0] 26)) = W at HR ⊢
    clear hDD
    refine wpAnyH_take (i := 0) (oi := ⟨_, _, _, _, _, _⟩) (v := .pointer (some ⟨w.heap.size, 0, none⟩)) rfl (by kernel_rfl) (by kernel_rfl) (by kernel_rfl) (fun _ _ _ h => h) (Or.inl ⟨by kernel_rfl, fun W hS => by (obtain ⟨s0, s1, s2⟩ := hS); go_simp⟩) (HSF _ HR) ?_
    (try simp only [Act.put, List.setIfInBounds_toArray, List.set_cons_zero, List.set_cons_succ])
    refine wpAnyH_take (i := 1) (oi := ⟨_, _, _, _, _, _⟩) (v := .int .i64 N) rfl (by kernel_rfl) (by kernel_rfl) (by kernel_rfl) (fun _ _ _ h => h) (Or.inl ⟨by kernel_rfl, fun W hS => by (obtain ⟨s0, s1, s2⟩ := hS); go_simp⟩) (HSF _ HR) ?_
    (try simp only [Act.put, List.setIfInBounds_toArray, List.set_cons_zero, List.set_cons_succ])
    refine wpAnyH_take (i := 2) (oi := ⟨_, _, _, _, _, _⟩) (v := .pointer (some ⟨w.heap.size, 1, none⟩)) rfl (by kernel_rfl) (by kernel_rfl) (by kernel_rfl) (fun _ _ _ h => h) (Or.inl ⟨by kernel_rfl, fun W hS => by (obtain ⟨s0, s1, s2⟩ := hS); go_simp⟩) (HSF _ HR) ?_
    (try simp only [Act.put, List.setIfInBounds_toArray, List.set_cons_zero, List.set_cons_succ])
    refine wpAnyH_take (i := 3) (oi := ⟨_, _, _, _, _, _⟩) (v := .slice A n c) rfl (by kernel_rfl) (by kernel_rfl) (by kernel_rfl) (fun _ _ _ h => h) (Or.inl ⟨by kernel_rfl, fun W hS => by (obtain ⟨s0, s1, s2⟩ := hS); go_simp⟩) (HSF _ HR) ?_
    (try simp only [Act.put, List.setIfInBounds_toArray, List.set_cons_zero, List.set_cons_succ])
    refine wpAnyH_take (i := 5) (oi := ⟨_, _, _, _, _, _⟩) (v := .pointer (some ⟨w.heap.size, 2, none⟩)) rfl (by kernel_rfl) (by kernel_rfl) (by kernel_rfl) (fun _ _ _ h => h) (Or.inl ⟨by kernel_rfl, fun W hS => by (obtain ⟨s0, s1, s2⟩ := hS); go_simp⟩) (HSF _ HR) ?_
    (try simp only [Act.put, List.setIfInBounds_toArray, List.set_cons_zero, List.set_cons_succ])
    refine wpAnyH_take (i := 6) (oi := ⟨_, _, _, _, _, _⟩) (v := .slice B m d) rfl (by kernel_rfl) (by kernel_rfl) (by kernel_rfl) (fun _ _ _ h => h) (Or.inl ⟨by kernel_rfl, fun W hS => by (obtain ⟨s0, s1, s2⟩ := hS); go_simp⟩) (HSF _ HR) ?_
    (try simp only [Act.put, List.setIfInBounds_toArray, List.set_cons_zero, List.set_cons_succ])
    refine (fun (Gr1o_2_1 : ∀ (W : World) (A2 : Option Addr) (c2 : Nat) (P : Option Addr) (c3 : Nat) (q : Nat), Hid (Below ((w.alloc (.cells #[.int .i64 N, .slice A n c, .slice B m d] 26)).alloc (.cells #[.int .i64 0, .slice none 0 0, .slice none 0 0] 26)).heap.size ((w.alloc (.cells #[.int .i64 N, .slice A n c, .slice B m d] 26)).alloc (.cells #[.int .i64 0, .slice none 0 0, .slice none 0 0] 26)) W) → Hid (W.ownsRow ((w.alloc (.cells #[.int .i64 N, .slice A n c, .slice B m d] 26)).alloc (.cells #[.int .i64 0, .slice none 0 0, .slice none 0 0] 26)).heap.size 3 1 (.slice A2 n c2) n (vi E)) → Hid (W.ownsRow ((w.alloc (.cells #[.int .i64 N, .slice A n c, .slice B m d] 26)).alloc (.cells #[.int .i64 0, .slice none 0 0, .slice none 0 0] 26)).heap.size 85 3 (.slice P m c3) m (bs.flatMap HE.cells)) → Hid (Blk W q #[.int .i64 0, .slice none 0 0, .slice none 0 0] 26) → Hid (((w.alloc (.cells #[.int .i64 N, .slice A n c, .slice B m d] 26)).alloc (.cells #[.int .i64 0, .slice none 0 0, .slice none 0 0] 26)).heap.size ≤ q) → (?Xr1o_2_1 : World → (Option Addr) → Nat → (Option Addr) → Nat → Nat → Prop) W A2 c2 P c3 q) => ?_) ?_
    rotate_left
    refine (fun (Gr1o_2_0 : ∀ (W : World) (A2 : Option Addr) (c2 : Nat) (P : Option Addr) (c3 : Nat), Hid (Below ((w.alloc (.cells #[.int .i64 N, .slice A n c, .slice B m d] 26)).alloc (.cells #[.int .i64 0, .slice none 0 0, .slice none 0 0] 26)).heap.size ((w.alloc (.cells #[.int .i64 N, .slice A n c, .slice B m d] 26)).alloc (.cells #[.int .i64 0, .slice none 0 0, .slice none 0 0] 26)) W) → Hid (W.ownsRow ((w.alloc (.cells #[.int .i64 N, .slice A n c, .slice B m d] 26)).alloc (.cells #[.int .i64 0, .slice none 0 0, .slice none 0 0] 26)).heap.size 3 1 (.slice A2 n c2) n (vi E)) → Hid (W.ownsRow ((w.alloc (.cells #[.int .i64 N, .slice A n c, .slice B m d] 26)).alloc (.cells #[.int .i64 0, .slice none 0 0, .slice none 0 0] 26)).heap.size 85 3 (.slice P m c3) m (bs.flatMap HE.cells)) → (?Xr1o_2_0 : World → (Option Addr) → Nat → (Option Addr) → Nat → Prop) W A2 c2 P c3) => ?_) ?_
    rotate_left
    refine (fun (Gr1o_1_1 : ∀ (W : World) (A2 : Option Addr) (c2 : Nat) (q : Nat), Hid (Below ((w.alloc (.cells #[.int .i64 N, .slice A n c, .slice B m d] 26)).alloc (.cells #[.int .i64 0, .slice none 0 0, .slice none 0 0] 26)).heap.size ((w.alloc (.cells #[.int .i64 N, .slice A n c, .slice B m d] 26)).alloc (.cells #[.int .i64 0, .slice none 0 0, .slice none 0 0] 26)) W) → Hid (W.ownsRow ((w.alloc (.cells #[.int .i64 N, .slice A n c, .slice B m d] 26)).alloc (.cells #[.int .i64 0, .slice none 0 0, .slice none 0 0] 26)).heap.size 3 1 (.slice A2 n c2) n (vi E)) → Hid (Blk W q #[.int .i64 0, .slice none 0 0, .slice none 0 0] 26) → Hid (((w.alloc (.cells #[.int .i64 N, .slice A n c, .slice B m d] 26)).alloc (.cells #[.int .i64 0, .slice none 0 0, .slice none 0 0] 26)).heap.size ≤ q) → (?Xr1o_1_1 : World → (Option Addr) → Nat → Nat → Prop) W A2 c2 q) => ?_) ?_
    rotate_left
    refine (fun (Gr1o_1_0 : ∀ (W : World) (A2 : Option Addr) (c2 : Nat), Hid (Below ((w.alloc (.cells #[.int .i64 N, .slice A n c, .slice B m d] 26)).alloc (.cells #[.int .i64 0, .slice none 0 0, .slice none 0 0] 26)).heap.size ((w.alloc (.cells #[.int .i64 N, .slice A n c, .slice B m d] 26)).alloc (.cells #[.int .i64 0, .slice none 0 0, .slice none 0 0] 26)) W) → Hid (W.ownsRow ((w.alloc (.cells #[.int .i64 N, .slice A n c, .slice B m d] 26)).alloc (.cells #[.int .i64 0, .slice none 0 0, .slice none 0 0] 26)).heap.size 3 1 (.slice A2 n c2) n (vi E)) → (?Xr1o_1_0 : World → (Option Addr) → Nat → Prop) W A2 c2) => ?_) ?_
    rotate_left
    refine (fun (Gr1o_0_1 : ∀ (W : World) (q : Nat), Hid (Below ((w.alloc (.cells #[.int .i64 N, .slice A n c, .slice B m d] 26)).alloc (.cells #[.int .i64 0, .slice none 0 0, .slice none 0 0] 26)).heap.size ((w.alloc (.cells #[.int .i64 N, .slice A n c, .slice B m d] 26)).alloc (.cells #[.int .i64 0, .slice none 0 0, .slice none 0 0] 26)) W) → Hid (Blk W q #[.int .i64 0, .slice none 0 0, .slice none 0 0] 26) → Hid (((w.alloc (.cells #[.int .i64 N, .slice A n c, .slice B m d] 26)).alloc (.cells #[.int .i64 0, .slice none 0 0, .slice none 0 0] 26)).heap.size ≤ q) → (?Xr1o_0_1 : World → Nat → Prop) W q) => ?_) ?_
    rotate_left
    change wpAnyH _ _ _ _ _ _ #[true, true, true, true, false, true, true, false, false, false, false] _ _
    refine wpAnyH_ready (rs := [4, 9]) (by kernel_rfl) (by simp) (AllReadyH.cons rfl (fun K hK => ?_) (AllReadyH.cons rfl (fun K hK => ?_) AllReadyH.nil))
    · skip
      go_simp
      go_at_call 57
      refine (CC.out W (g_chain H_1.out HR.out)).mono ?_
      rintro e W2 ⟨A2, c2, rfl, ho, hb⟩
      have OE : Hid (W2.ownsRow ((w.alloc (.cells #[.int .i64 N, .slice A n c, .slice B m d] 26)).alloc (.cells #[.int .i64 0, .slice none 0 0, .slice none 0 0] 26)).heap.size 3 1 (.slice A2 n c2) n (vi E)) := Lib.hid (own_monoG ho (Below.size HR.out))
      have HR := Lib.hid (g_chain HR.out hb)
      clear hb
      dsimp only
      refine hK.out _ _ (HSF _ HR) (fun _ => ?_)
      clear hK K
      (try simp only [List.setIfInBounds_toArray, List.set_cons_zero, List.set_cons_succ])
      change wpAnyH _ _ _ _ _ _ #[true, true, true, true, true, true, true, false, false, false, false] _ _
      exact Gr1o_1_0 W2 A2 c2 HR OE
    · skip
      go_simp
      have hb := below_a1 W (.cells #[.int .i64 0, .slice none 0 0, .slice none 0 0] 26)
      have Zq : Hid (Blk (W.alloc (.cells #[.int .i64 0, .slice none 0 0, .slice none 0 0] 26)) W.heap.size #[.int .i64 0, .slice none 0 0, .slice none 0 0] 26) := Lib.hid (Blk.new W #[.int .i64 0, .slice none 0 0, .slice none 0 0] 26)
      have HQq : Hid (((w.alloc (.cells #[.int .i64 N, .slice A n c, .slice B m d] 26)).alloc (.cells #[.int .i64 0, .slice none 0 0, .slice none 0 0] 26)).heap.size ≤ W.heap.size) := Lib.hid (Below.size HR.out)
      have HR := Lib.hid (g_chain HR.out hb)
      clear hb
      refine hK.out _ _ (HSF _ HR) (fun _ => ?_)
      clear hK K
      (try simp only [List.setIfInBounds_toArray, List.set_cons_zero, List.set_cons_succ])
      generalize hZ : W.alloc (.cells #[.int .i64 0, .slice none 0 0, .slice none 0 0] 26) = W2 at Zq HR ⊢
      clear hZ
      generalize hZ : W.heap.size = q at Zq HQq ⊢
      clear hZ
      change wpAnyH _ _ _ _ _ _ #[true, true, true, true, false, true, true, false, false, true, false] _ _
      exact Gr1o_0_1 W2 q HR Zq HQq
    · intro W q HR Zq HQq
      change wpAnyH _ _ _ _ _ _ #[true, true, true, true, false, true, true, false, false, true, false] _ _
      refine wpAnyH_ready (rs := [4]) (by kernel_rfl) (by simp) (AllReadyH.cons rfl (fun K hK => ?_) AllReadyH.nil)
      · skip
        go_simp
        go_at_call 57
        refine (CC.out W (g_chain H_1.out HR.out)).mono ?_
        rintro e W2 ⟨A2, c2, rfl, ho, hb⟩
        have Zq : Hid (Blk W2 q #[.int .i64 0, .slice none 0 0, .slice none 0 0] 26) := Lib.hid (Zq.out.below hb)
        have HQq : Hid (((w.alloc (.cells #[.int .i64 N, .slice A n c, .slice B m d] 26)).alloc (.cells #[.int .i64 0, .slice none 0 0, .slice none 0 0] 26)).heap.size ≤ q) := Lib.hid (HQq.out)
        have OE : Hid (W2.ownsRow ((w.alloc (.cells #[.int .i64 N, .slice A n c, .slice B m d] 26)).alloc (.cells #[.int .i64 0, .slice none 0 0, .slice none 0 0] 26)).heap.size 3 1 (.slice A2 n c2) n (vi E)) := Lib.hid (own_monoG ho (Below.size HR.out))
        have HR := Lib.hid (g_chain HR.out hb)
        clear hb
        dsimp only
        refine hK.out _ _ (HSF _ HR) (fun _ => ?_)
        clear hK K
        (try simp only [List.setIfInBounds_toArray, List.set_cons_zero, List.set_cons_succ])
        change wpAnyH _ _ _ _ _ _ #[true, true, true, true, true, true, true, false, false, true, false] _ _
        exact Gr1o_1_1 W2 A2 c2 q HR OE Zq HQq
    · intro W A2 c2 HR OE
      change wpAnyH _ _ _ _ _ _ #[true, true, true, true, true, true, true, false, false, false, false] _ _
      refine wpAnyH_ready (rs := [7, 9]) (by kernel_rfl) (by simp) (AllReadyH.cons rfl (fun K hK => ?_) (AllReadyH.cons rfl (fun K hK => ?_) AllReadyH.nil))
      · skip
        go_simp
        go_at_call 111
        refine (CH.out W (g_chain H_1.out HR.out)).mono ?_
        rintro e W2 ⟨P, c3, rfl, ho, hb⟩
        have OE : Hid (W2.ownsRow ((w.alloc (.cells #[.int .i64 N, .slice A n c, .slice B m d] 26)).alloc (.cells #[.int .i64 0, .slice none 0 0, .slice none 0 0] 26)).heap.size 3 1 (.slice A2 n c2) n (vi E)) := Lib.hid (own_below OE.out hb)
        have OR : Hid (W2.ownsRow ((w.alloc (.cells #[.int .i64 N, .slice A n c, .slice B m d] 26)).alloc (.cells #[.int .i64 0, .slice none 0 0, .slice none 0 0] 26)).heap.size 85 3 (.slice P m c3) m (bs.flatMap HE.cells)) := Lib.hid (own_monoG ho (Below.size HR.out))
        have HR := Lib.hid (g_chain HR.out hb)
        clear hb
        dsimp only
        refine hK.out _ _ (HSF _ HR) (fun _ => ?_)
        clear hK K
        (try simp only [List.setIfInBounds_toArray, List.set_cons_zero, List.set_cons_succ])
        refine wpAnyH_take (i := 8) (oi := ⟨_, _, _, _, _, _⟩) (v := .agg #[.int .i64 N, .slice A2 n c2, .slice P m c3]) rfl (by kernel_rfl) (by kernel_rfl) (by kernel_rfl) (fun _ _ _ h => h) (Or.inl ⟨by kernel_rfl, fun W hS => by go_simp⟩) (HSF _ HR) ?_
        (try simp only [Act.put, List.setIfInBounds_toArray, List.set_cons_zero, List.set_cons_succ])
        change wpAnyH _ _ _ _ _ _ #[true, true, true, true, true, true, true, true, true, false, false] _ _
        exact Gr1o_2_0 W2 A2 c2 P c3 HR OE OR
      · skip
        go_simp
        have hb := below_a1 W (.cells #[.int .i64 0, .slice none 0 0, .slice none 0 0] 26)
        have OE : Hid ((W.alloc (.cells #[.int .i64 0, .slice none 0 0, .slice none 0 0] 26)).ownsRow ((w.alloc (.cells #[.int .i64 N, .slice A n c, .slice B m d] 26)).alloc (.cells #[.int .i64 0, .slice none 0 0, .slice none 0 0] 26)).heap.size 3 1 (.slice A2 n c2) n (vi E)) := Lib.hid (own_below OE.out hb)
        have Zq : Hid (Blk (W.alloc (.cells #[.int .i64 0, .slice none 0 0, .slice none 0 0] 26)) W.heap.size #[.int .i64 0, .slice none 0 0, .slice none 0 0] 26) := Lib.hid (Blk.new W #[.int .i64 0, .slice none 0 0, .slice none 0 0] 26)
        have HQq : Hid (((w.alloc (.cells #[.int .i64 N, .slice A n c, .slice B m d] 26)).alloc (.cells #[.int .i64 0, .slice none 0 0, .slice none 0 0] 26)).heap.size ≤ W.heap.size) := Lib.hid (Below.size HR.out)
        have HR := Lib.hid (g_chain HR.out hb)
        clear hb
        refine hK.out _ _ (HSF _ HR) (fun _ => ?_)
        clear hK K
        (try simp only [List.setIfInBounds_toArray, List.set_cons_zero, List.set_cons_succ])
        generalize hZ : W.alloc (.cells #[.int .i64 0, .slice none 0 0, .slice none 0 0] 26) = W2 at OE Zq HR ⊢
        clear hZ
        generalize hZ : W.heap.size = q at Zq HQq ⊢
        clear hZ
        change wpAnyH _ _ _ _ _ _ #[true, true, true, true, true, true, true, false, false, true, false] _ _
        exact Gr1o_1_1 W2 A2 c2 q HR OE Zq HQq
    · intro W A2 c2 q HR OE Zq HQq
      change wpAnyH _ _ _ _ _ _ #[true, true, true, true, true, true, true, false, false, true, false] _ _
      refine wpAnyH_ready (rs := [7]) (by kernel_rfl) (by simp) (AllReadyH.cons rfl (fun K hK => ?_) AllReadyH.nil)
      · skip
        go_simp
        go_at_call 111
        refine (CH.out W (g_chain H_1.out HR.out)).mono ?_
        rintro e W2 ⟨P, c3, rfl, ho, hb⟩
        have OE : Hid (W2.ownsRow ((w.alloc (.cells #[.int .i64 N, .slice A n c, .slice B m d] 26)).alloc (.cells #[.int .i64 0, .slice none 0 0, .slice none 0 0] 26)).heap.size 3 1 (.slice A2 n c2) n (vi E)) := Lib.hid (own_below OE.out hb)
        have Zq : Hid (Blk W2 q #[.int .i64 0, .slice none 0 0, .slice none 0 0] 26) := Lib.hid (Zq.out.below hb)
        have HQq : Hid (((w.alloc (.cells #[.int .i64 N, .slice A n c, .slice B m d] 26)).alloc (.cells #[.int .i64 0, .slice none 0 0, .slice none 0 0] 26)).heap.size ≤ q) := Lib.hid (HQq.out)
        have OR : Hid (W2.ownsRow ((w.alloc (.cells #[.int .i64 N, .slice A n c, .slice B m d] 26)).alloc (.cells #[.int .i64 0, .slice none 0 0, .slice none 0 0] 26)).heap.size 85 3 (.slice P m c3) m (bs.flatMap HE.cells)) := Lib.hid (own_monoG ho (Below.size HR.out))
        have HR := Lib.hid (g_chain HR.out hb)
        clear hb
        dsimp only
        refine hK.out _ _ (HSF _ HR) (fun _ => ?_)
        clear hK K
        (try simp only [List.setIfInBounds_toArray, List.set_cons_zero, List.set_cons_succ])
        refine wpAnyH_take (i := 8) (oi := ⟨_, _, _, _, _, _⟩) (v := .agg #[.int .i64 N, .slice A2 n c2, .slice P m c3]) rfl (by kernel_rfl) (by kernel_rfl) (by kernel_rfl) (fun _ _ _ h => h) (Or.inl ⟨by kernel_rfl, fun W hS => by go_simp⟩) (HSF _ HR) ?_
        (try simp only [Act.put, List.setIfInBounds_toArray, List.set_cons_zero, List.set_cons_succ])
        change wpAnyH _ _ _ _ _ _ #[true, true, true, true, true, true, true, true, true, true, false] _ _
        exact Gr1o_2_1 W2 A2 c2 P c3 q HR OE OR Zq HQq
    · intro W A2 c2 P c3 HR OE OR
      change wpAnyH _ _ _ _ _ _ #[true, true, true, true, true, true, true, true, true, false, false] _ _
      refine wpAnyH_ready (rs := [9]) (by kernel_rfl) (by simp) (AllReadyH.cons rfl (fun K hK => ?_) AllReadyH.nil)
      · skip
        go_simp
        have hb := below_a1 W (.cells #[.int .i64 0, .slice none 0 0, .slice none 0 0] 26)
        have OE : Hid ((W.alloc (.cells #[.int .i64 0, .slice none 0 0, .slice none 0 0] 26)).ownsRow ((w.alloc (.cells #[.int .i64 N, .slice A n c, .slice B m d] 26)).alloc (.cells #[.int .i64 0, .slice none 0 0, .slice none 0 0] 26)).heap.size 3 1 (.slice A2 n c2) n (vi E)) := Lib.hid (own_below OE.out hb)
        have OR : Hid ((W.alloc (.cells #[.int .i64 0, .slice none 0 0, .slice none 0 0] 26)).ownsRow ((w.alloc (.cells #[.int .i64 N, .slice A n c, .slice B m d] 26)).alloc (.cells #[.int .i64 0, .slice none 0 0, .slice none 0 0] 26)).heap.size 85 3 (.slice P m c3) m (bs.flatMap HE.cells)) := Lib.hid (own_below OR.out hb)
        have Zq : Hid (Blk (W.alloc (.cells #[.int .i64 0, .slice none 0 0, .slice none 0 0] 26)) W.heap.size #[.int .i64 0, .slice none 0 0, .slice none 0 0] 26) := Lib.hid (Blk.new W #[.int .i64 0, .slice none 0 0, .slice none 0 0] 26)
        have HQq : Hid (((w.alloc (.cells #[.int .i64 N, .slice A n c, .slice B m d] 26)).alloc (.cells #[.int .i64 0, .slice none 0 0, .slice none 0 0] 26)).heap.size ≤ W.heap.size) := Lib.hid (Below.size HR.out)
        have HR := Lib.hid (g_chain HR.out hb)
        clear hb
        refine hK.out _ _ (HSF _ HR) (fun _ => ?_)
        clear hK K
        (try simp only [List.setIfInBounds_toArray, List.set_cons_zero, List.set_cons_succ])
        generalize hZ : W.alloc (.cells #[.int .i64 0, .slice none 0 0, .slice none 0 0] 26) = W2 at OE OR Zq HR ⊢
        clear hZ
        generalize hZ : W.heap.size = q at Zq HQq ⊢
        clear hZ
        change wpAnyH _ _ _ _ _ _ #[true, true, true, true, true, true, true, true, true, true, false] _ _
        exact Gr1o_2_1 W2 A2 c2 P c3 q HR OE OR Zq HQq
    · intro W A2 c2 P c3 q HR OE OR Zq HQq
      change wpAnyH _ _ _ _ _ _ #[true, true, true, true, true, true, true, true, true, true, false] _ _
      refine wpAnyH_ready (rs := [10]) (by kernel_rfl) (by simp) (AllReadyH.cons rfl (fun K hK => ?_) AllReadyH.nil)
      have z0 := Zq.out.cell (i := 0) rfl
      have f0 := Zq.out.frozen 0
      have z1 := Zq.out.cell (i := 1) rfl
      have f1 := Zq.out.frozen 1
      have z2 := Zq.out.cell (i := 2) rfl
      have f2 := Zq.out.frozen 2
      have zl := Zq.out.lt
      go_simp
      clear z0 f0 z1 f1 z2 f2
      have hgr := ((grown_cell W q 0 (.int .i64 N)).trans (grown_cell (W.setCell ⟨q, 0, none⟩ (.int .i64 N)) q 1 (.slice A2 n c2))).trans (grown_cell ((W.setCell ⟨q, 0, none⟩ (.int .i64 N)).setCell ⟨q, 1, none⟩ (.slice A2 n c2)) q 2 (.slice P m c3))
      have EBX := Lib.hid ((BX_2.out.below HR.out).grown hgr (by intro e; injection e with e; have h1 := HQq.out; have h2 := BX_2.out.lt; omega))
      refine hK.out _ _ ⟨EBX.out.cell (i := 0) rfl, EBX.out.cell (i := 1) rfl, EBX.out.cell (i := 2) rfl⟩ (fun _ => ?_)
      clear hK K
      (try simp only [List.setIfInBounds_toArray, List.set_cons_zero, List.set_cons_succ])
      refine wpAnyH_done (by kernel_rfl) ?_ _
      go_wp2_with fail
      go_meet
      have ZB : Blk (((W.setCell ⟨q, 0, none⟩ (.int .i64 N)).setCell ⟨q, 1, none⟩ (.slice A2 n c2)).setCell ⟨q, 2, none⟩ (.slice P m c3)) q #[.int .i64 N, .slice A2 n c2, .slice P m c3] 26 := Blk.set (Blk.set (Blk.set (Zq.out) 0 (.int .i64 N)) 1 (.slice A2 n c2)) 2 (.slice P m c3)
      exact ⟨q, A2, c2, P, c3, rfl, Lib.hid (HR.out.grown hgr (Below.size HR.out) (fun j hj => by injection hj with hj; have h1 := HQq.out; omega)), Lib.hid ZB, Lib.hid (own_kept OE.out hgr (own_kind OE.out Zq.out (by decide))), Lib.hid (own_kept OR.out hgr (own_kind OR.out Zq.out (by decide))), Lib.hid ⟨HQq.out, ZB.lt⟩⟩
  case rest =>
    rename World => w1
    obtain ⟨qo, A2, c2, P, c3, rfl, hb, hx, ho0, ho1, hq⟩ := hcut
    have H_4 := Lib.hid (g_chain H_1.out hb.out)
    clear H_1
    have BX_5 := Lib.hid (BX_2.out.below hb.out)
    clear BX_2
    have BZ_6 := Lib.hid (BZ_3.out.below hb.out)
    clear BZ_3
    have sz_7 := Lib.hid (Below.size hb.out)
    have sz_8 := Lib.hid (hq.out.1)
    have sz_9 := Lib.hid (hq.out.2)
    have OE_10 := Lib.hid (ho0.out)
    have OR_11 := Lib.hid (ho1.out)
    have OUTo_12 := Lib.hid (hx.out)
    clear hb hx hq ho0 ho1
    have HOE := Lib.hid (own_monoG (lo' := w.heap.size) OE_10.out (by have := sz0.out; have := sz_7.out; have := sz_8.out; have := sz_9.out; omega))
    have HOR := Lib.hid (own_monoG (lo' := w.heap.size) OR_11.out (by have := sz0.out; have := sz_7.out; have := sz_8.out; have := sz_9.out; omega))
    have hqo : w.heap.size + 1 < qo := by have := sz0.out; have := sz_7.out; have := sz_8.out; have := sz_9.out; omega
    have x_13 := BX_5.out.cell (i := 0) rfl
    have x_14 := BX_5.out.cell (i := 1) rfl
    have x_15 := BX_5.out.cell (i := 2) rfl
    have fz_16 := fun i => BX_5.out.frozen i
    have lt_17 := BX_5.out.lt
    go_wp2
    clear x_13 x_14 x_15 fz_16 lt_17
    go_loopw [18] (fun i wr => ∃ (k : Nat) (made : List HE), k ≤ m ∧ i = .int .i64 (k : Int) ∧ Hid (wr.ownsRow w.heap.size 85 3 (.slice P m c3) m ((made ++ bs.drop k).flatMap HE.cells)) ∧ Hid (OwnHL wr w.heap.size made) ∧ Hid (made.length = k) ∧ Hid (made.map HE.sd = (bs.take k).map HE.sd) ∧ Hid (Blk wr w.heap.size #[.int .i64 N, .slice A n c, .slice B m d] 26) ∧ Hid (Blk wr (w.heap.size + 1) #[.int .i64 0, .slice none 0 0, .slice none 0 0] 26) ∧ Hid (Blk wr qo #[.int .i64 N, .slice A2 n c2, .slice P m c3] 26) ∧ Hid (wr.ownsRow w.heap.size 3 1 (.slice A2 n c2) n (vi E)) ∧ Hid (Below w.heap.size w wr)) (fun i _ => m - (intOf i).toNat)
    case atStart => exact ⟨0, [], Nat.zero_le _, rfl, HOR, Lib.hid OwnHL.nil, Lib.hid rfl, Lib.hid rfl, BX_5, BZ_6, OUTo_12, HOE, H_4⟩
    case round =>
      clear BX_5 BZ_6 OUTo_12 H_4 OE_10 OR_11 HOE HOR
      obtain ⟨k, made, hk, rfl, hrow, hdat, hml, hmap, hbx, hbz, hbo, hoe, hbel⟩ := hrel
      by_cases hlt : k < m
      · skip
        obtain ⟨b, off, e, hBB, hbw, he, hok, c0, c1', c2'⟩ := HB.out.at_ hlt
        obtain ⟨elo, ehi, eA, en, ec, ees⟩ := e
        have hrow1 := hrow.out
        rw [g_drop bs k _ he.out] at hrow1
        obtain ⟨g, hg⟩ := g_own_at hrow1 (by omega)
        subst hg
        subst hBB
        have c0 : wr.cell? ⟨b, off + k * 3, none⟩ = some (.int .i64 elo) := (hbel.out.cell (p := ⟨b, off + k * 3, none⟩) hbw).trans c0
        have c1' : wr.cell? ⟨b, off + k * 3 + 1, none⟩ = some (.int .i64 ehi) := (hbel.out.cell (p := ⟨b, off + k * 3 + 1, none⟩) hbw).trans c1'
        have c2' : wr.cell? ⟨b, off + k * 3 + 2, none⟩ = some (.slice eA en ec) := (hbel.out.cell (p := ⟨b, off + k * 3 + 2, none⟩) hbw).trans c2'
        have HTK : Hid ((bs.take (k + 1)).map HE.sd = (bs.take k).map HE.sd ++ [(elo, ehi, ees)]) := Lib.hid (by rw [g_take bs k _ he.out, List.map_append]; rfl)
        have HEL : Hid (ees.length = en) := Lib.hid hok.out.rd.len
        have hen : en ≤ 1048576 := HS.out _ (List.mem_of_getElem? he.out)
        have CK := Lib.hid (fun W (h : Below w.heap.size w W) => cloneK eA en ec ees W (hok.out.rd.below h) hen)
        unfold RowR at CK
        have HR := Lib.hid hrow1
        have hkm : (k : Int) < (m : Int) := by omega
        have LTD := Lib.hid hdat.out
        clear hok he hrow1 hrow
        have hqw : qo < wr.heap.size := hbo.out.lt
        have hgw := Lib.hid (HR.out.lt g rfl)
        have hgw1 : w.heap.size ≤ g := hgw.out.1
        have hgw2 : g < wr.heap.size := hgw.out.2
        have hgo : g ≠ qo := fun e => own_kind HR.out hbo.out (by decide) (by rw [← e]; rfl)
        have hgx : g ≠ w.heap.size := fun e => own_kind HR.out hbx.out (by decide) (by rw [← e]; rfl)
        have hgz : g ≠ w.heap.size + 1 := fun e => own_kind HR.out hbz.out (by decide) (by rw [← e]; rfl)
        have hb := below_a1 wr (.cells #[.int .i64 elo, .int .i64 ehi, .slice eA en ec] 85)
        have HR_501 := Lib.hid (own_below HR.out hb)
        have HD_502 := Lib.hid (hdat.out.below hb)
        have BX_503 := Lib.hid (hbx.out.below hb)
        have BZ_504 := Lib.hid (hbz.out.below hb)
        have BO_505 := Lib.hid (hbo.out.below hb)
        have OE_506 := Lib.hid (own_below hoe.out hb)
        have H_507 := Lib.hid (g_chain hbel.out hb)
        have sz_508 := Lib.hid (Below.size hb)
        have BS := Lib.hid (Blk.new wr #[.int .i64 elo, .int .i64 ehi, .slice eA en ec] 85)
        clear hb
        go_upto_region 5 with fail
        refine wp_region_any (by kernel_rfl) ?_
        change wpAny _ _ _ _ _ _ _ (World.drew _)
        have hb : Below (wr.alloc (.cells #[.int .i64 elo, .int .i64 ehi, .slice eA en ec] 85)).heap.size (wr.alloc (.cells #[.int .i64 elo, .int .i64 ehi, .slice eA en ec] 85)) (World.drew (wr.alloc (.cells #[.int .i64 elo, .int .i64 ehi, .slice eA en ec] 85))) := (Below.refl _ _).drew
        have HR_509 := Lib.hid (own_below HR_501.out hb)
        clear HR_501
        have HD_510 := Lib.hid (HD_502.out.below hb)
        clear HD_502
        have BX_511 := Lib.hid (BX_503.out.below hb)
        clear BX_503
        have BZ_512 := Lib.hid (BZ_504.out.below hb)
        clear BZ_504
        have BO_513 := Lib.hid (BO_505.out.below hb)
        clear BO_505
        have OE_514 := Lib.hid (own_below OE_506.out hb)
        clear OE_506
        have H_515 := Lib.hid (g_chain H_507.out hb)
        clear H_507
        have BS_516 := Lib.hid (BS.out.below hb)
        clear BS
        have sz_517 := Lib.hid (Below.size hb)
        clear hb
        have hsw5 : wr.heap.size ≤ (World.drew (wr.alloc (.cells #[.int .i64 elo, .int .i64 ehi, .slice eA en ec] 85))).heap.size := by simp
        generalize hDD : World.drew (wr.alloc (.cells #[.int .i64 elo, .int .i64 ehi, .slice eA en ec] 85)) = W5 at hsw5 HR_509 HD_510 BX_511 BZ_512 BO_513 OE_514 H_515 BS_516 sz_517 ⊢
        clear hDD
        refine wpAny_of_held (S := fun W => W.cell? ⟨qo, 0, none⟩ = some (.int .i64 N) ∧ W.cell? ⟨qo, 1, none⟩ = some (.slice A2 n c2) ∧ W.cell? ⟨qo, 2, none⟩ = some (.slice (some ⟨g, 0, none⟩) m c3) ∧ W.cell? ⟨wr.heap.size, 0, none⟩ = some (.int .i64 elo) ∧ W.cell? ⟨wr.heap.size, 1, none⟩ = some (.int .i64 ehi) ∧ W.cell? ⟨wr.heap.size, 2, none⟩ = some (.slice eA en ec)) _ _ _ _ ?_
        refine held_nameC ⟨BO_513.out.cell (i := 0) rfl, BO_513.out.cell (i := 1) rfl, BO_513.out.cell (i := 2) rfl, BS_516.out.cell (i := 0) rfl, BS_516.out.cell (i := 1) rfl, BS_516.out.cell (i := 2) rfl⟩ (fun hS => ?_)
        refine wpAnyH_take (i := 0) (oi := ⟨_, _, _, _, _, _⟩) (v := .pointer (some ⟨qo, 2, none⟩)) rfl (by kernel_rfl) (by kernel_rfl) (by kernel_rfl) (fun _ _ _ h => h) (Or.inl ⟨by kernel_rfl, fun W hS => by (obtain ⟨s0, s1, s2, s3, s4, s5⟩ := hS); go_simp⟩) hS ?_
        (try simp only [Act.put, List.setIfInBounds_toArray, List.set_cons_zero, List.set_cons_succ])
        refine wpAnyH_take (i := 1) (oi := ⟨_, _, _, _, _, _⟩) (v := .slice (some ⟨g, 0, none⟩) m c3) rfl (by kernel_rfl) (by kernel_rfl) (by kernel_rfl) (fun _ _ _ h => h) (Or.inl ⟨by kernel_rfl, fun W hS => by (obtain ⟨s0, s1, s2, s3, s4, s5⟩ := hS); go_simp⟩) hS ?_
        (try simp only [Act.put, List.setIfInBounds_toArray, List.set_cons_zero, List.set_cons_succ])
        refine wpAnyH_take (i := 2) (oi := ⟨_, _, _, _, _, _⟩) (v := .int .i64 (k : Int)) rfl (by kernel_rfl) (by kernel_rfl) (by kernel_rfl) (fun _ _ _ h => h) (Or.inl ⟨by kernel_rfl, fun W hS => by (obtain ⟨s0, s1, s2, s3, s4, s5⟩ := hS); go_simp⟩) hS ?_
        (try simp only [Act.put, List.setIfInBounds_toArray, List.set_cons_zero, List.set_cons_succ])
        refine wpAnyH_take (i := 3) (oi := ⟨_, _, _, _, _, _⟩) (v := .pointer (some ⟨wr.heap.size, 2, none⟩)) rfl (by kernel_rfl) (by kernel_rfl) (by kernel_rfl) (fun _ _ _ h => h) (Or.inl ⟨by kernel_rfl, fun W hS => by (obtain ⟨s0, s1, s2, s3, s4, s5⟩ := hS); go_simp⟩) hS ?_
        (try simp only [Act.put, List.setIfInBounds_toArray, List.set_cons_zero, List.set_cons_succ])
        refine wpAnyH_take (i := 4) (oi := ⟨_, _, _, _, _, _⟩) (v := .slice eA en ec) rfl (by kernel_rfl) (by kernel_rfl) (by kernel_rfl) (fun _ _ _ h => h) (Or.inl ⟨by kernel_rfl, fun W hS => by (obtain ⟨s0, s1, s2, s3, s4, s5⟩ := hS); go_simp⟩) hS ?_
        (try simp only [Act.put, List.setIfInBounds_toArray, List.set_cons_zero, List.set_cons_succ])
        refine wpAnyH_ready (rs := [5]) (by kernel_rfl) (by simp) (AllReadyH.cons rfl (fun K hK => ?_) AllReadyH.nil)
        go_simp
        go_at_call 112
        refine (CK.out _ H_515.out).mono ?_
        rintro e1 W6 ⟨A4, c4, rfl, ho, hb⟩
        have D6 : Hid (OwnHL W6 w.heap.size (made ++ [(⟨elo, ehi, A4, en, c4, ees⟩ : HE)])) := Lib.hid (OwnHL.append (HD_510.out.below hb) (OwnHL.one (d := (⟨elo, ehi, A4, en, c4, ees⟩ : HE)) (own_monoG ho H_515.out.size) HEL.out) (fun a ha b2 hb2 => by rw [List.mem_singleton.1 hb2]; exact apartH_of_time LTD.out hsw5 (OwnHL.one (d := (⟨elo, ehi, A4, en, c4, ees⟩ : HE)) ho HEL.out) (Nat.le_refl _) a ha (⟨elo, ehi, A4, en, c4, ees⟩ : HE) (by simp)))
        have HR_518 := Lib.hid (own_below HR_509.out hb)
        clear HR_509
        have HD_519 := Lib.hid (HD_510.out.below hb)
        clear HD_510
        have BX_520 := Lib.hid (BX_511.out.below hb)
        clear BX_511
        have BZ_521 := Lib.hid (BZ_512.out.below hb)
        clear BZ_512
        have BO_522 := Lib.hid (BO_513.out.below hb)
        clear BO_513
        have OE_523 := Lib.hid (own_below OE_514.out hb)
        clear OE_514
        have H_524 := Lib.hid (g_chain H_515.out hb)
        clear H_515
        have BS_525 := Lib.hid (BS_516.out.below hb)
        clear BS_516
        have sz_526 := Lib.hid (Below.size hb)
        clear ho hb
        dsimp only
        refine hK.out _ _ ⟨BO_522.out.cell (i := 0) rfl, BO_522.out.cell (i := 1) rfl, BO_522.out.cell (i := 2) rfl, BS_525.out.cell (i := 0) rfl, BS_525.out.cell (i := 1) rfl, BS_525.out.cell (i := 2) rfl⟩ (fun hS => ?_)
        clear hK K
        (try simp only [Act.put, List.setIfInBounds_toArray, List.set_cons_zero, List.set_cons_succ])
        refine wpAnyH_take (i := 6) (oi := ⟨_, _, _, _, _, _⟩) (v := .pointer (some ⟨g, k * 3, none⟩)) rfl (by kernel_rfl) (by kernel_rfl) (by kernel_rfl) (fun _ _ _ h => h) (Or.inl ⟨by kernel_rfl, fun W hS => by (obtain ⟨s0, s1, s2, s3, s4, s5⟩ := hS); go_simp⟩) hS ?_
        (try simp only [Act.put, List.setIfInBounds_toArray, List.set_cons_zero, List.set_cons_succ])
        refine wpAnyH_take (i := 7) (oi := ⟨_, _, _, _, _, _⟩) (v := .pointer (some ⟨g, k * 3 + 2, none⟩)) rfl (by kernel_rfl) (by kernel_rfl) (by kernel_rfl) (fun _ _ _ h => h) (Or.inl ⟨by kernel_rfl, fun W hS => by (obtain ⟨s0, s1, s2, s3, s4, s5⟩ := hS); go_simp⟩) hS ?_
        (try simp only [Act.put, List.setIfInBounds_toArray, List.set_cons_zero, List.set_cons_succ])
        refine wpAnyH_ready (rs := [8]) (by kernel_rfl) (by simp) (AllReadyH.cons rfl (fun K hK => ?_) AllReadyH.nil)
        have hlay := he_edges A4 c4 HR_518.out hml.out
        simp only at hlay
        have hc2 : W6.cell? ⟨g, k * 3 + 2, none⟩ = some (.slice eA en ec) := (HR_518.out.cellAt (k * 3 + 2) (by omega)).trans (flat_get HE.cells 3 HE.cells_len _ k 2 _ (g_get made (bs.drop (k + 1)) _ k hml.out) (by omega))
        have hf2 := HR_518.out.frozenAt (k * 3 + 2)
        obtain ⟨cur, hg0⟩ := bat_block HR_518.out
        have D7 := Lib.hid (D6.out.kept hlay.2 (D6.out.far hg0 (by decide)))
        have R7 := Lib.hid hlay.1
        have HGB := Lib.hid hlay.2
        clear hlay hg0
        go_simp
        clear hc2 hf2
        have BX_527 := Lib.hid (BX_520.out.grown HGB.out (fun e => by injection e with e; exact absurd e (by omega)))
        have BZ_528 := Lib.hid (BZ_521.out.grown HGB.out (fun e => by injection e with e; exact absurd e (by omega)))
        have BO_529 := Lib.hid (BO_522.out.grown HGB.out (fun e => by injection e with e; exact absurd e (by omega)))
        have BS_530 := Lib.hid (BS_525.out.grown HGB.out (fun e => by injection e with e; exact absurd e (by omega)))
        have OE_531 := Lib.hid (OE_523.out.kept HGB.out ((own_types OE_523.out HR_518.out (by decide)).imp id fun h e => h e.symm))
        have H_532 := Lib.hid (H_524.out.grown HGB.out H_524.out.size (fun j hj => by injection hj with hj; omega))
        refine hK.out _ _ ⟨BO_529.out.cell (i := 0) rfl, BO_529.out.cell (i := 1) rfl, BO_529.out.cell (i := 2) rfl, BS_530.out.cell (i := 0) rfl, BS_530.out.cell (i := 1) rfl, BS_530.out.cell (i := 2) rfl⟩ (fun hS => ?_)
        clear hK K
        (try simp only [Act.put, List.setIfInBounds_toArray, List.set_cons_zero, List.set_cons_succ])
        refine wpAnyH_done (by kernel_rfl) ?_ _
        go_wp2
        go_roundw
        case rel => exact ⟨k + 1, made ++ [(⟨elo, ehi, A4, en, c4, ees⟩ : HE)], by omega, by go_num, Lib.hid (by rw [List.append_assoc]; exact R7.out), D7, Lib.hid (by rw [List.length_append, hml.out]; rfl), Lib.hid (by rw [HTK.out, List.map_append, hmap.out]; rfl), BX_527, BZ_528, BO_529, OE_531, H_532⟩
        case measure => simp [intOf]; omega
      · obtain rfl : k = m := by omega
        skip
        have RE := Lib.hid (hoe.out.lt)
        have zl := hbz.out.lt
        have hcl : bs.drop k = [] := List.drop_eq_nil_of_le (by rw [HL.out]; exact Nat.le_refl _)
        have x_901 := hbo.out.cell (i := 0) rfl
        have x_902 := hbo.out.cell (i := 1) rfl
        have x_903 := hbo.out.cell (i := 2) rfl
        have fz_904 := fun i => hbo.out.frozen i
        have lt_905 := hbo.out.lt
        have x_906 := hbz.out.cell (i := 0) rfl
        have x_907 := hbz.out.cell (i := 1) rfl
        have x_908 := hbz.out.cell (i := 2) rfl
        have fz_909 := fun i => hbz.out.frozen i
        have lt_910 := hbz.out.lt
        go_wp2
        have hg_911 := ((grown_cell wr (w.heap.size + 1) 0 (.int .i64 N)).trans (grown_cell (wr.setCell ⟨w.heap.size + 1, 0, none⟩ (.int .i64 N)) (w.heap.size + 1) 1 (.slice A2 n c2))).trans (grown_cell ((wr.setCell ⟨w.heap.size + 1, 0, none⟩ (.int .i64 N)).setCell ⟨w.heap.size + 1, 1, none⟩ (.slice A2 n c2)) (w.heap.size + 1) 2 (.slice P k c3))
        have BX_912 := Lib.hid (hbx.out.grown hg_911 (by intro e; injection e with e; omega))
        have BO_913 := Lib.hid (hbo.out.grown hg_911 (by intro e; injection e with e; omega))
        have H_914 := Lib.hid (hbel.out.grown hg_911 hbel.out.size (fun j hj => by injection hj with hj; omega))
        have OE_915 := Lib.hid (own_kept hoe.out hg_911 (own_kind hoe.out hbz.out (by decide)))
        have BZ_916 : Hid (Blk (((wr.setCell ⟨w.heap.size + 1, 0, none⟩ (.int .i64 N)).setCell ⟨w.heap.size + 1, 1, none⟩ (.slice A2 n c2)).setCell ⟨w.heap.size + 1, 2, none⟩ (.slice P k c3)) (w.heap.size + 1) #[.int .i64 N, .slice A2 n c2, .slice P k c3] 26) := Lib.hid (Blk.set (Blk.set (Blk.set (hbz.out) 0 (.int .i64 N)) 1 (.slice A2 n c2)) 2 (.slice P k c3))
        have sz_917 := Lib.hid (World.grownBy.size hg_911)
        clear hg_911
        refine bodyPost_ret (v := .agg #[.int .i64 N, .slice A2 n c2, .slice P k c3]) (by simp [results, Try.results61, go_sem, x_906, x_907, x_908]) rfl ?_
        have G9 : Hid (HOwn (((wr.setCell ⟨w.heap.size + 1, 0, none⟩ (.int .i64 N)).setCell ⟨w.heap.size + 1, 1, none⟩ (.slice A2 n c2)).setCell ⟨w.heap.size + 1, 2, none⟩ (.slice P k c3)) w.heap.size w.heap.size ((((wr.setCell ⟨w.heap.size + 1, 0, none⟩ (.int .i64 N)).setCell ⟨w.heap.size + 1, 1, none⟩ (.slice A2 n c2)).setCell ⟨w.heap.size + 1, 2, none⟩ (.slice P k c3))).heap.size P k c3 (sdL bs)) := Lib.hid (by
          have h0 := hrow.out
          rw [hcl, List.append_nil] at h0
          have h1 : OwnH wr w.heap.size P k c3 made := ⟨h0, hml.out, hdat.out⟩
          have hw : OnlyB (fun g => g = w.heap.size + 1) wr (((wr.setCell ⟨w.heap.size + 1, 0, none⟩ (.int .i64 N)).setCell ⟨w.heap.size + 1, 1, none⟩ (.slice A2 n c2)).setCell ⟨w.heap.size + 1, 2, none⟩ (.slice P k c3)) := by
            repeat (first | exact OnlyB.refl _ _ | refine OnlyB.grown ?_ (grown_cell _ _ _ _) (fun i hi => by injection hi with hi; omega))
          have h2 := h1.but hw (fun g hg hh => by
            subst hh
            rcases hg with hg | ⟨dd, hd, hg⟩
            · exact own_kind h1.row hbz.out (by decide) hg
            · exact own_kind (h1.dat.own dd hd) hbz.out (by decide) hg)
          exact HOwn.of h2 (by rw [hmap.out, List.take_of_length_le (by rw [HL.out]; exact Nat.le_refl _)]; rfl))
        have e1 := HLE.out
        have e2 : (sdL bs).length = k := by rw [sdL_len, HL.out]
        unfold MadeF
        rw [e1, e2]
        exact ⟨A2, c2, P, c3, rfl, ⟨OE_915.out, G9.out, fun g hg => (show w.heap.size ≤ g ∧ g < ((((wr.setCell ⟨w.heap.size + 1, 0, none⟩ (.int .i64 N)).setCell ⟨w.heap.size + 1, 1, none⟩ (.slice A2 n c2)).setCell ⟨w.heap.size + 1, 2, none⟩ (.slice P k c3))).heap.size by have h3 := RE.out g hg; have := sz_917.out; omega)⟩, H_914.out⟩
end Go.Proofs.Ytpgnappddddlpaa
