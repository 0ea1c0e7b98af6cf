/- The contract of the model's l11Views: the views of a vertex, and where they stand. Condition: at most 2^20 edges, as many values. -/
import Derived.Test.YtpgnappddddlpaaGreatDoorCGE
import Derived.Test.YtpgnappddddlpaaGreatDoorCGB
import Derived.RegionTactic
import Derived.Deep.RegionWith
import Derived.BigRegion
import Derived.Deep.Cut
import Derived.Deep.RegionLaw
import Derived.Deep.RegionHeld3
import Derived.StillTailTactics
namespace Go.Proofs.YtpgnappddddlpaaGreatDoor
open Go.RowKit
set_option linter.unusedVariables false

set_option maxRecDepth 20000 in
set_option maxHeartbeats 8000000 in
theorem specViewsOf (N : Int) (AG : Option Addr) (l cG : Nat) (G : List GE) (v p s it : Int) (dn : Bool) (A : Option Addr) (n c : Nat) (B : Option Addr) (m d : Nat) (nn : Int) (C : Option Addr) (j k0 : Nat) (ev : List Int) (w : World) (hg : SlG w AG l G) (he : SlI w B m ev) (hm : l ≤ m) (hl : l ≤ 1048576) :
    Calls Tryz.prog 52 #[.agg #[.int .i64 N, .slice AG l cG], .agg #[.int .i64 p, .int .i64 s, .int .i64 it, .bool dn, .slice A n c, .slice B m d, .int .i64 nn, .slice C j k0], .int .i64 v] w (MadeVI w (viewsT G ev v l) (idxT G v l)) := by
  obtain ⟨i0, hi, hz0, hz1, hz2⟩ := info_parts Tryz.infoInt
  obtain ⟨j0, hj, jz0, jz1, jz2⟩ := info_parts Tryz.infoView
  have HG := Lib.hid hg
  have HE := Lib.hid he
  have HF : Hid (∀ k, viewsT G ev v k = (idxT G v k).map (viewAt G ev v)) := Lib.hid (fun _ => rfl)
  have HB : Hid (Blk (((((w.alloc (.cells #[.int .i64 N, .slice AG l cG] 44)).alloc (.cells #[.int .i64 p, .int .i64 s, .int .i64 it, .bool dn, .slice A n c, .slice B m d, .int .i64 nn, .slice C j k0] 39))).alloc (.cells #[] 94)).alloc (.cells #[] 3)) (w.heap.size + 1) #[.int .i64 p, .int .i64 s, .int .i64 it, .bool dn, .slice A n c, .slice B m d, .int .i64 nn, .slice C j k0] 39) := Lib.hid (by have h := (((Blk.new (w.alloc (.cells #[.int .i64 N, .slice AG l cG] 44)) #[.int .i64 p, .int .i64 s, .int .i64 it, .bool dn, .slice A n c, .slice B m d, .int .i64 nn, .slice C j k0] 39).alloc (.cells #[] 94)).alloc (.cells #[] 3)); simpa using h)
  have HG0 := Lib.hid ((((Blk.new w #[.int .i64 N, .slice AG l cG] 44).alloc (.cells #[.int .i64 p, .int .i64 s, .int .i64 it, .bool dn, .slice A n c, .slice B m d, .int .i64 nn, .slice C j k0] 39)).alloc (.cells #[] 94)).alloc (.cells #[] 3))
  have HST : Hid (VSt w ((((w.alloc (.cells #[.int .i64 N, .slice AG l cG] 44)).alloc (.cells #[.int .i64 p, .int .i64 s, .int .i64 it, .bool dn, .slice A n c, .slice B m d, .int .i64 nn, .slice C j k0] 39)).alloc (.cells #[] 94)).alloc (.cells #[] 3)) (some ⟨w.heap.size + 1 + 1, 0, none⟩) 0 (some ⟨w.heap.size + 1 + 1 + 1, 0, none⟩) 0 [] []) := Lib.hid ⟨by
      have h := own_below (World.ownsRow_lit (size := 4) ((w.alloc (.cells #[.int .i64 N, .slice AG l cG] 44)).alloc (.cells #[.int .i64 p, .int .i64 s, .int .i64 it, .bool dn, .slice A n c, .slice B m d, .int .i64 nn, .slice C j k0] 39)) #[] 0 (Nat.le_refl _) (by unfold maxLen; omega) rfl : (((w.alloc (.cells #[.int .i64 N, .slice AG l cG] 44)).alloc (.cells #[.int .i64 p, .int .i64 s, .int .i64 it, .bool dn, .slice A n c, .slice B m d, .int .i64 nn, .slice C j k0] 39)).alloc (.cells #[] 94)).ownsRow _ 94 4 _ 0 []) (below_a1 _ (.cells #[] 3))
      simp only [World.size_alloc] at h
      exact own_monoG h (by omega), by
      have h := lab_built (((w.alloc (.cells #[.int .i64 N, .slice AG l cG] 44)).alloc (.cells #[.int .i64 p, .int .i64 s, .int .i64 it, .bool dn, .slice A n c, .slice B m d, .int .i64 nn, .slice C j k0] 39)).alloc (.cells #[] 94))
      simp only [World.size_alloc] at h
      exact own_monoG h (by omega), g_chain (below_a3 w _ _ _) (below_a1 _ _)⟩
  clear hg he
  have HL0 : Hid (idxT G v 0 = []) := Lib.hid rfl
  go_enter Tryz.func52, Tryz.ntmps52
  go_wp2
  go_loopw [8, 9, 17] (fun o1 o2 i wr => ∃ (k : Nat) (A1 : Option Addr) (c1 : Nat) (A2 : Option Addr) (c2 : Nat), k ≤ l ∧ i = .int .i64 (k : Int) ∧ o1 = .slice A1 (idxT G v k).length c1 ∧ o2 = .slice A2 (idxT G v k).length c2 ∧ Hid (Blk wr (w.heap.size + 1) #[.int .i64 p, .int .i64 s, .int .i64 it, .bool dn, .slice A n c, .slice B m d, .int .i64 nn, .slice C j k0] 39) ∧ Hid (VSt w wr A1 c1 A2 c2 (viewsT G ev v k) (idxT G v k))) (fun _ _ i _ => l - (intOf i).toNat)
  case atStart => exact ⟨0, (some ⟨w.heap.size + 1 + 1, 0, none⟩), 0, (some ⟨w.heap.size + 1 + 1 + 1, 0, none⟩), 0, Nat.zero_le _, rfl, rfl, rfl, HB, HST⟩
  case round =>
    clear HB HST HL0 HG0
    obtain ⟨k, A1, c1, A2, c2, hk, rfl, rfl, rfl, hbx, hst⟩ := hrel
    have hlen := idx_len G v k
    rw [HF.out] at hst
    obtain ⟨ms, HMS⟩ : ∃ ms, Hid (idxT G v k = ms) := ⟨_, Lib.hid rfl⟩
    rw [HMS.out] at hst hlen ⊢
    by_cases hlt : k < l
    · have hml : ms.length ≤ 1048576 := by omega
      clear hlen
      obtain ⟨gb, goff, e, rfl, hgbw, he, c0, c1', c2'⟩ := HG.out.at_ hlt
      obtain ⟨eb, eoff, x, rfl, hebw, hx, d0⟩ := HE.out.at_ (Nat.lt_of_lt_of_le hlt hm)
      have c0 := (hst.out.h.cell (p := ⟨gb, goff + k * 3, none⟩) hgbw).trans c0
      have c1' := (hst.out.h.cell (p := ⟨gb, goff + k * 3 + 1, none⟩) hgbw).trans c1'
      have c2' := (hst.out.h.cell (p := ⟨gb, goff + k * 3 + 2, none⟩) hgbw).trans c2'
      have HD := Lib.hid d0
      have HW := Lib.hid hst.out.h.size
      have HBA := Lib.hid (below_a1 wr (.cells #[.int .i64 e.f, .int .i64 e.t, .int .i64 e.w] 86))
      have EB := Lib.hid (Blk.new wr #[.int .i64 e.f, .int .i64 e.t, .int .i64 e.w] 86)
      have HLE := Lib.hid (Blk.lt EB.out)
      have RB := Lib.hid (hbx.out.below HBA.out)
      have ST := Lib.hid (hst.out.below HBA.out)
      have D1 := Lib.hid (((hst.out.h.cell (p := ⟨eb, eoff + k, none⟩) hebw).trans HD.out))
      have D2 := Lib.hid ((HBA.out.cell (p := ⟨eb, eoff + k, none⟩) (by show eb < _; have := HW.out; omega)).trans D1.out)
      have hkm : k < m := by omega
      clear d0 HD D1
      have e0 := EB.out.cell (i := 0) rfl
      have e1 := EB.out.cell (i := 1) rfl
      have e2 := EB.out.cell (i := 2) rfl
      have f0 := EB.out.frozen 0
      have f1 := EB.out.frozen 1
      have f2 := EB.out.frozen 2
      by_cases hf : e.f = v
      · have hf1 : (e.f == v) = true := by simp [hf]
        have HFF := Lib.hid hf
        clear hf
        by_cases ht : e.t = v
        · have ht1 : (e.t == v) = true := by simp [ht]
          have HTT := Lib.hid ht
          clear ht
          have HIX := Lib.hid (idx_yes he.out (.inl HFF.out))
          have HVX : Hid (viewAt G ev v k = ⟨true, true, e.w, x⟩) := Lib.hid (by rw [viewAt_is he.out hx.out]; simp [HTT.out, HFF.out])
          go_upto_region 7 with fail
          clear c0 c1' c2' e0 e1 e2 f0 f1 f2 hst hbx HBA
          have hw4 : w.heap.size ≤ (wr.alloc (.cells #[.int .i64 e.f, .int .i64 e.t, .int .i64 e.w] 86)).heap.size := by have := HW.out; simp; omega
          have HLP : Hid (wr.heap.size < (wr.alloc (.cells #[.int .i64 e.f, .int .i64 e.t, .int .i64 e.w] 86)).heap.size) := Lib.hid (by simp)
          generalize hWW : (wr.alloc (.cells #[.int .i64 e.f, .int .i64 e.t, .int .i64 e.w] 86)) = W4 at RB ST D2 EB HLP hw4 ⊢
          clear hWW HLE
          have r5 := RB.out.cell (i := 5) rfl
          have rl := RB.out.lt
          have x0 := D2.out
          have e0 := EB.out.cell (i := 0) rfl
          have e1 := EB.out.cell (i := 1) rfl
          have e2 := EB.out.cell (i := 2) rfl
          have hel := HLP.out
          have OV0 := Lib.hid ST.out.v
          refine wp_region_any (by kernel_rfl) ?_
          change wpAny _ _ _ _ _ _ _ (World.drew _)
          clear r5 rl x0 e0 e1 e2 OV0
          replace RB := Lib.hid (RB.out.drewN 1)
          replace EB := Lib.hid (EB.out.drewN 1)
          replace ST := Lib.hid (ST.out.drewN 1)
          replace D2 : Hid ((World.drew W4).cell? ⟨eb, eoff + k, none⟩ = some (.int .i64 x)) := Lib.hid D2.out
          replace HLP : Hid (wr.heap.size < (World.drew W4).heap.size) := Lib.hid HLP.out
          replace hw4 : w.heap.size ≤ (World.drew W4).heap.size := hw4
          replace hel := HLP.out
          have HEB : Hid (eb < (World.drew W4).heap.size) := Lib.hid (by have h1 := HLP.out; have h2 := HW.out; omega)
          change Hid (Blk (World.drew W4) _ _ _) at RB EB
          change Hid (VSt w (World.drew W4) _ _ _ _ _ _) at ST
          generalize hDD : World.drew W4 = wd at RB ST D2 EB HLP HEB hw4 hel ⊢
          clear hDD W4
          refine wpAny_of_held (S := fun W => W.cell? ⟨wr.heap.size, 0, none⟩ = some (.int .i64 e.f) ∧ W.cell? ⟨wr.heap.size, 1, none⟩ = some (.int .i64 e.t) ∧ W.cell? ⟨wr.heap.size, 2, none⟩ = some (.int .i64 e.w) ∧ W.cell? ⟨w.heap.size + 1, 5, none⟩ = some (.slice (some ⟨eb, eoff, none⟩) m d) ∧ W.cell? ⟨eb, eoff + k, none⟩ = some (.int .i64 x)) _ _ _ _ ?_
          refine wpAnyH_take (i := 0) (oi := ⟨_, _, _, _, _, _⟩) (v := .slice A1 ms.length c1) rfl (by kernel_rfl) (by kernel_rfl) (by kernel_rfl) (fun _ _ _ h => h) (Or.inl ⟨by kernel_rfl, fun W hS => by (obtain ⟨s0, s1, s2, s3, s4⟩ := hS); go_simp⟩) ⟨EB.out.cell (i := 0) rfl, EB.out.cell (i := 1) rfl, EB.out.cell (i := 2) rfl, RB.out.cell (i := 5) rfl, D2.out⟩ ?_
          (try simp only [Act.put, List.setIfInBounds_toArray, List.set_cons_zero, List.set_cons_succ])
          refine wpAnyH_take (i := 1) (oi := ⟨_, _, _, _, _, _⟩) (v := .pointer (some ⟨wr.heap.size, 1, none⟩)) rfl (by kernel_rfl) (by kernel_rfl) (by kernel_rfl) (fun _ _ _ h => h) (Or.inl ⟨by kernel_rfl, fun W hS => by (obtain ⟨s0, s1, s2, s3, s4⟩ := hS); go_simp⟩) ⟨EB.out.cell (i := 0) rfl, EB.out.cell (i := 1) rfl, EB.out.cell (i := 2) rfl, RB.out.cell (i := 5) rfl, D2.out⟩ ?_
          (try simp only [Act.put, List.setIfInBounds_toArray, List.set_cons_zero, List.set_cons_succ])
          refine wpAnyH_take (i := 2) (oi := ⟨_, _, _, _, _, _⟩) (v := .int .i64 e.t) rfl (by kernel_rfl) (by kernel_rfl) (by kernel_rfl) (fun _ _ _ h => h) (Or.inl ⟨by kernel_rfl, fun W hS => by (obtain ⟨s0, s1, s2, s3, s4⟩ := hS); go_simp⟩) ⟨EB.out.cell (i := 0) rfl, EB.out.cell (i := 1) rfl, EB.out.cell (i := 2) rfl, RB.out.cell (i := 5) rfl, D2.out⟩ ?_
          (try simp only [Act.put, List.setIfInBounds_toArray, List.set_cons_zero, List.set_cons_succ])
          refine wpAnyH_take (i := 3) (oi := ⟨_, _, _, _, _, _⟩) (v := .int .i64 v) rfl (by kernel_rfl) (by kernel_rfl) (by kernel_rfl) (fun _ _ _ h => h) (Or.inl ⟨by kernel_rfl, fun W hS => by (obtain ⟨s0, s1, s2, s3, s4⟩ := hS); go_simp⟩) ⟨EB.out.cell (i := 0) rfl, EB.out.cell (i := 1) rfl, EB.out.cell (i := 2) rfl, RB.out.cell (i := 5) rfl, D2.out⟩ ?_
          (try simp only [Act.put, List.setIfInBounds_toArray, List.set_cons_zero, List.set_cons_succ])
          refine wpAnyH_take (i := 4) (oi := ⟨_, _, _, _, _, _⟩) (v := .bool true) rfl (by kernel_rfl) (by kernel_rfl) (by kernel_rfl) (fun _ _ _ h => h) (Or.inl ⟨by kernel_rfl, fun W hS => by (obtain ⟨s0, s1, s2, s3, s4⟩ := hS); go_simp⟩) ⟨EB.out.cell (i := 0) rfl, EB.out.cell (i := 1) rfl, EB.out.cell (i := 2) rfl, RB.out.cell (i := 5) rfl, D2.out⟩ ?_
          (try simp only [Act.put, List.setIfInBounds_toArray, List.set_cons_zero, List.set_cons_succ])
          refine wpAnyH_take (i := 5) (oi := ⟨_, _, _, _, _, _⟩) (v := .pointer (some ⟨wr.heap.size, 0, none⟩)) rfl (by kernel_rfl) (by kernel_rfl) (by kernel_rfl) (fun _ _ _ h => h) (Or.inl ⟨by kernel_rfl, fun W hS => by (obtain ⟨s0, s1, s2, s3, s4⟩ := hS); go_simp⟩) ⟨EB.out.cell (i := 0) rfl, EB.out.cell (i := 1) rfl, EB.out.cell (i := 2) rfl, RB.out.cell (i := 5) rfl, D2.out⟩ ?_
          (try simp only [Act.put, List.setIfInBounds_toArray, List.set_cons_zero, List.set_cons_succ])
          refine wpAnyH_take (i := 6) (oi := ⟨_, _, _, _, _, _⟩) (v := .int .i64 e.f) rfl (by kernel_rfl) (by kernel_rfl) (by kernel_rfl) (fun _ _ _ h => h) (Or.inl ⟨by kernel_rfl, fun W hS => by (obtain ⟨s0, s1, s2, s3, s4⟩ := hS); go_simp⟩) ⟨EB.out.cell (i := 0) rfl, EB.out.cell (i := 1) rfl, EB.out.cell (i := 2) rfl, RB.out.cell (i := 5) rfl, D2.out⟩ ?_
          (try simp only [Act.put, List.setIfInBounds_toArray, List.set_cons_zero, List.set_cons_succ])
          refine wpAnyH_take (i := 7) (oi := ⟨_, _, _, _, _, _⟩) (v := .int .i64 v) rfl (by kernel_rfl) (by kernel_rfl) (by kernel_rfl) (fun _ _ _ h => h) (Or.inl ⟨by kernel_rfl, fun W hS => by (obtain ⟨s0, s1, s2, s3, s4⟩ := hS); go_simp⟩) ⟨EB.out.cell (i := 0) rfl, EB.out.cell (i := 1) rfl, EB.out.cell (i := 2) rfl, RB.out.cell (i := 5) rfl, D2.out⟩ ?_
          (try simp only [Act.put, List.setIfInBounds_toArray, List.set_cons_zero, List.set_cons_succ])
          refine wpAnyH_take (i := 8) (oi := ⟨_, _, _, _, _, _⟩) (v := .bool true) rfl (by kernel_rfl) (by kernel_rfl) (by kernel_rfl) (fun _ _ _ h => h) (Or.inl ⟨by kernel_rfl, fun W hS => by (obtain ⟨s0, s1, s2, s3, s4⟩ := hS); go_simp⟩) ⟨EB.out.cell (i := 0) rfl, EB.out.cell (i := 1) rfl, EB.out.cell (i := 2) rfl, RB.out.cell (i := 5) rfl, D2.out⟩ ?_
          (try simp only [Act.put, List.setIfInBounds_toArray, List.set_cons_zero, List.set_cons_succ])
          refine wpAnyH_take (i := 9) (oi := ⟨_, _, _, _, _, _⟩) (v := .pointer (some ⟨wr.heap.size, 2, none⟩)) rfl (by kernel_rfl) (by kernel_rfl) (by kernel_rfl) (fun _ _ _ h => h) (Or.inl ⟨by kernel_rfl, fun W hS => by (obtain ⟨s0, s1, s2, s3, s4⟩ := hS); go_simp⟩) ⟨EB.out.cell (i := 0) rfl, EB.out.cell (i := 1) rfl, EB.out.cell (i := 2) rfl, RB.out.cell (i := 5) rfl, D2.out⟩ ?_
          (try simp only [Act.put, List.setIfInBounds_toArray, List.set_cons_zero, List.set_cons_succ])
          refine wpAnyH_take (i := 10) (oi := ⟨_, _, _, _, _, _⟩) (v := .int .i64 e.w) rfl (by kernel_rfl) (by kernel_rfl) (by kernel_rfl) (fun _ _ _ h => h) (Or.inl ⟨by kernel_rfl, fun W hS => by (obtain ⟨s0, s1, s2, s3, s4⟩ := hS); go_simp⟩) ⟨EB.out.cell (i := 0) rfl, EB.out.cell (i := 1) rfl, EB.out.cell (i := 2) rfl, RB.out.cell (i := 5) rfl, D2.out⟩ ?_
          (try simp only [Act.put, List.setIfInBounds_toArray, List.set_cons_zero, List.set_cons_succ])
          refine wpAnyH_take (i := 11) (oi := ⟨_, _, _, _, _, _⟩) (v := .pointer (some ⟨w.heap.size + 1, 5, none⟩)) rfl (by kernel_rfl) (by kernel_rfl) (by kernel_rfl) (fun _ _ _ h => h) (Or.inl ⟨by kernel_rfl, fun W hS => by (obtain ⟨s0, s1, s2, s3, s4⟩ := hS); go_simp⟩) ⟨EB.out.cell (i := 0) rfl, EB.out.cell (i := 1) rfl, EB.out.cell (i := 2) rfl, RB.out.cell (i := 5) rfl, D2.out⟩ ?_
          (try simp only [Act.put, List.setIfInBounds_toArray, List.set_cons_zero, List.set_cons_succ])
          refine wpAnyH_take (i := 12) (oi := ⟨_, _, _, _, _, _⟩) (v := .slice (some ⟨eb, eoff, none⟩) m d) rfl (by kernel_rfl) (by kernel_rfl) (by kernel_rfl) (fun _ _ _ h => h) (Or.inl ⟨by kernel_rfl, fun W hS => by (obtain ⟨s0, s1, s2, s3, s4⟩ := hS); go_simp⟩) ⟨EB.out.cell (i := 0) rfl, EB.out.cell (i := 1) rfl, EB.out.cell (i := 2) rfl, RB.out.cell (i := 5) rfl, D2.out⟩ ?_
          (try simp only [Act.put, List.setIfInBounds_toArray, List.set_cons_zero, List.set_cons_succ])
          refine wpAnyH_take (i := 13) (oi := ⟨_, _, _, _, _, _⟩) (v := .int .i64 (k : Int)) rfl (by kernel_rfl) (by kernel_rfl) (by kernel_rfl) (fun _ _ _ h => h) (Or.inl ⟨by kernel_rfl, fun W hS => by (obtain ⟨s0, s1, s2, s3, s4⟩ := hS); go_simp⟩) ⟨EB.out.cell (i := 0) rfl, EB.out.cell (i := 1) rfl, EB.out.cell (i := 2) rfl, RB.out.cell (i := 5) rfl, D2.out⟩ ?_
          (try simp only [Act.put, List.setIfInBounds_toArray, List.set_cons_zero, List.set_cons_succ])
          refine wpAnyH_take (i := 14) (oi := ⟨_, _, _, _, _, _⟩) (v := .pointer (some ⟨eb, eoff + k, none⟩)) rfl (by kernel_rfl) (by kernel_rfl) (by kernel_rfl) (fun _ _ _ h => h) (Or.inl ⟨by kernel_rfl, fun W hS => by (obtain ⟨s0, s1, s2, s3, s4⟩ := hS); go_simp⟩) ⟨EB.out.cell (i := 0) rfl, EB.out.cell (i := 1) rfl, EB.out.cell (i := 2) rfl, RB.out.cell (i := 5) rfl, D2.out⟩ ?_
          (try simp only [Act.put, List.setIfInBounds_toArray, List.set_cons_zero, List.set_cons_succ])
          refine wpAnyH_take (i := 15) (oi := ⟨_, _, _, _, _, _⟩) (v := .int .i64 x) rfl (by kernel_rfl) (by kernel_rfl) (by kernel_rfl) (fun _ _ _ h => h) (Or.inl ⟨by kernel_rfl, fun W hS => by (obtain ⟨s0, s1, s2, s3, s4⟩ := hS); go_simp⟩) ⟨EB.out.cell (i := 0) rfl, EB.out.cell (i := 1) rfl, EB.out.cell (i := 2) rfl, RB.out.cell (i := 5) rfl, D2.out⟩ ?_
          (try simp only [Act.put, List.setIfInBounds_toArray, List.set_cons_zero, List.set_cons_succ])
          refine wpAnyH_take (i := 16) (oi := ⟨_, _, _, _, _, _⟩) (v := .agg #[.bool true, .bool true, .int .i64 e.w, .int .i64 x]) rfl (by kernel_rfl) (by kernel_rfl) (by kernel_rfl) (fun _ _ _ h => h) (Or.inl ⟨by kernel_rfl, fun W hS => by (obtain ⟨s0, s1, s2, s3, s4⟩ := hS); go_simp⟩) ⟨EB.out.cell (i := 0) rfl, EB.out.cell (i := 1) rfl, EB.out.cell (i := 2) rfl, RB.out.cell (i := 5) rfl, D2.out⟩ ?_
          (try simp only [Act.put, List.setIfInBounds_toArray, List.set_cons_zero, List.set_cons_succ])
          refine wpAnyH_ready (rs := [17]) (by kernel_rfl) (by simp) (AllReadyH.cons rfl (fun K hK => ?_) AllReadyH.nil)
          go_simp
          have hbz := below_a1 wd (.cells #[.bool true, .bool true, .int .i64 e.w, .int .i64 x] 94)
          have EB1 := Lib.hid (EB.out.below hbz)
          have RB1 := Lib.hid (RB.out.below hbz)
          have D21 := Lib.hid ((hbz.cell (p := ⟨eb, eoff + k, none⟩) HEB.out).trans D2.out)
          have EB0 := Lib.hid EB.out
          have RB0 := Lib.hid RB.out
          replace EB := EB1
          replace RB := RB1
          replace D2 := D21
          clear hbz
          refine hK.out _ _ ⟨EB.out.cell (i := 0) rfl, EB.out.cell (i := 1) rfl, EB.out.cell (i := 2) rfl, RB.out.cell (i := 5) rfl, D2.out⟩ (fun _ => ?_)
          clear hK K
          (try simp only [Act.put, List.setIfInBounds_toArray, List.set_cons_zero, List.set_cons_succ])
          refine wpAnyH_ready (rs := [18]) (by kernel_rfl) (by simp) (AllReadyH.cons rfl (fun K hK => ?_) AllReadyH.nil)
          refine step_append_any _ (by rfl) (.tmp 32) (.tmp 49) _ (by rfl) w.heap.size 94 j0 _ 4 24 Tryz.underlying79 hj jz0 jz1 jz2 rfl (by omega) (.slice A1 ms.length c1) ms.length ((ms.map (viewAt G ev v)).flatMap VE.cells) (by rfl) (ST.out.v.alloc _) (wd.heap.size + 1) (some ⟨wd.heap.size, 0, none⟩) 1 1 (VE.cells ⟨true, true, e.w, x⟩) (by rfl) (vw_reads _ ⟨true, true, e.w, x⟩ _ _ rfl) (VE.cells_one _) (by simp only [maxLen]; omega) (by omega) (by simp; omega) ?_
          intro v3 w3 hown3 hg3 hat3
          obtain ⟨P3, c3, rfl, -⟩ := own_formG hown3
          have HEBo : Hid (∀ z, (Value.slice A1 ms.length c1).ownBlock = some z → w.heap.size ≤ z) := Lib.hid (fun z hz => (ST.out.v.lt z hz).1)
          replace EB := Lib.hid (EB.out.grown hg3 (own_kind (own_below ST.out.v (below_a1 wd (.cells #[.bool true, .bool true, .int .i64 e.w, .int .i64 x] 94))) EB.out (by decide)))
          replace RB := Lib.hid (RB.out.grown hg3 (own_kind (own_below ST.out.v (below_a1 wd (.cells #[.bool true, .bool true, .int .i64 e.w, .int .i64 x] 94))) RB.out (by decide)))
          replace D2 := Lib.hid ((World.cell?_of_block (a := ⟨eb, eoff + k, none⟩) (hg3.block eb (by have := HEB.out; simp; omega) (fun hh => by have h9 := HEBo.out _ hh.symm; omega))).trans D2.out)
          refine hK.out _ _ ⟨EB.out.cell (i := 0) rfl, EB.out.cell (i := 1) rfl, EB.out.cell (i := 2) rfl, RB.out.cell (i := 5) rfl, D2.out⟩ (fun _ => ?_)
          clear hK K
          (try simp only [Act.put, List.setIfInBounds_toArray])
          refine wpAnyH_take (i := 19) (oi := ⟨_, _, _, _, _, _⟩) (v := .slice P3 (ms.length + 1) c3) rfl (by kernel_rfl) (by kernel_rfl) (by kernel_rfl) (fun _ _ _ h => h) (Or.inl ⟨by kernel_rfl, fun W hS => by (obtain ⟨s0, s1, s2, s3, s4⟩ := hS); go_simp⟩) ⟨EB.out.cell (i := 0) rfl, EB.out.cell (i := 1) rfl, EB.out.cell (i := 2) rfl, RB.out.cell (i := 5) rfl, D2.out⟩ ?_
          (try simp only [Act.put])
          refine wpAnyH_done (by kernel_rfl) ?_ _
          replace RB := RB0
          have hgq := hg3
          have HGV := Lib.hid (VSt.gotV (e := ⟨true, true, e.w, x⟩) ST.out hgq (by simpa using hown3))
          have HS3 := Lib.hid hg3.size
          have RB3 := Lib.hid ((RB.out.alloc (.cells #[.bool true, .bool true, .int .i64 e.w, .int .i64 x] 94)).grown hgq (own_kind ST.out.v RB.out (by decide)))
          clear hown3 hg3 hgq hat3 ST RB EB
          obtain ⟨hgv, hgi, hgb⟩ := HGV.out
          have HV3 := Lib.hid hgv
          have HI3 := Lib.hid hgi
          have HB3 := Lib.hid hgb
          have hw3 := HB3.out.size
          clear hgv hgi hgb HGV
          go_wp2_with (at_builtin; refine wpList_append_any _ rfl (.tmp 51) (.tmp 53) _ rfl w.heap.size 3 i0 _ 1 8 Tryz.underlying27 hi hz0 hz1 hz2 rfl (by omega) (.slice A2 ms.length c2) ms.length (vi (zI ms)) rfl (HI3.out.alloc (.cells #[.int .i64 (k : Int)] 3)) (w3.heap.size + 1) (some ⟨w3.heap.size, 0, none⟩) 1 1 [.int .i64 (k : Int)] rfl (lab_reads _ _ _ _ (by simp)) (lab_one _) (by simp only [maxLen]; omega) (by omega) (by simp; omega) ?_)
          intro v5 w5 hown5 hg5 hat5
          obtain ⟨P5, c5, rfl, -⟩ := own_formG hown5
          have HN : Hid (VSt w w5 P3 c3 P5 c5 (ms.map (viewAt G ev v) ++ [⟨true, true, e.w, x⟩]) (ms ++ [k])) := Lib.hid (VSt.gotI HV3.out HI3.out HB3.out rfl hg5 (by simpa using hown5))
          have RB5 := Lib.hid ((RB3.out.alloc (.cells #[.int .i64 (k : Int)] 3)).grown hg5 (own_kind HI3.out RB3.out (by decide)))
          clear hown5 hg5 hat5 HV3 HI3 HB3 RB3
          have hln : (ms ++ [k]).length = ms.length + 1 := by simp
          have HFN : Hid (viewsT G ev v (k + 1) = ms.map (viewAt G ev v) ++ [⟨true, true, e.w, x⟩]) := Lib.hid (by rw [HF.out, HIX.out, HMS.out, List.map_append, List.map_cons, HVX.out]; rfl)
          have HIN : Hid (idxT G v (k + 1) = ms ++ [k]) := Lib.hid (by rw [HIX.out, HMS.out])
          go_wp2
          go_roundw
          case rel => exact ⟨k + 1, P3, c3, P5, c5, by omega, by go_num, by rw [HIN.out, hln], by rw [HIN.out, hln], RB5, by rw [HIN.out, HFN.out]; exact HN⟩
          case measure => simp [intOf]; omega
        · have ht1 : (e.t == v) = false := by simp [ht]
          have HTT := Lib.hid ht
          clear ht
          have HIX := Lib.hid (idx_yes he.out (.inl HFF.out))
          have HVX : Hid (viewAt G ev v k = ⟨false, true, e.w, x⟩) := Lib.hid (by rw [viewAt_is he.out hx.out]; simp [HTT.out, HFF.out])
          go_upto_region 7 with fail
          clear c0 c1' c2' e0 e1 e2 f0 f1 f2 hst hbx HBA
          have hw4 : w.heap.size ≤ (wr.alloc (.cells #[.int .i64 e.f, .int .i64 e.t, .int .i64 e.w] 86)).heap.size := by have := HW.out; simp; omega
          have HLP : Hid (wr.heap.size < (wr.alloc (.cells #[.int .i64 e.f, .int .i64 e.t, .int .i64 e.w] 86)).heap.size) := Lib.hid (by simp)
          generalize hWW : (wr.alloc (.cells #[.int .i64 e.f, .int .i64 e.t, .int .i64 e.w] 86)) = W4 at RB ST D2 EB HLP hw4 ⊢
          clear hWW HLE
          have r5 := RB.out.cell (i := 5) rfl
          have rl := RB.out.lt
          have x0 := D2.out
          have e0 := EB.out.cell (i := 0) rfl
          have e1 := EB.out.cell (i := 1) rfl
          have e2 := EB.out.cell (i := 2) rfl
          have hel := HLP.out
          have OV0 := Lib.hid ST.out.v
          refine wp_region_any (by kernel_rfl) ?_
          change wpAny _ _ _ _ _ _ _ (World.drew _)
          clear r5 rl x0 e0 e1 e2 OV0
          replace RB := Lib.hid (RB.out.drewN 1)
          replace EB := Lib.hid (EB.out.drewN 1)
          replace ST := Lib.hid (ST.out.drewN 1)
          replace D2 : Hid ((World.drew W4).cell? ⟨eb, eoff + k, none⟩ = some (.int .i64 x)) := Lib.hid D2.out
          replace HLP : Hid (wr.heap.size < (World.drew W4).heap.size) := Lib.hid HLP.out
          replace hw4 : w.heap.size ≤ (World.drew W4).heap.size := hw4
          replace hel := HLP.out
          have HEB : Hid (eb < (World.drew W4).heap.size) := Lib.hid (by have h1 := HLP.out; have h2 := HW.out; omega)
          change Hid (Blk (World.drew W4) _ _ _) at RB EB
          change Hid (VSt w (World.drew W4) _ _ _ _ _ _) at ST
          generalize hDD : World.drew W4 = wd at RB ST D2 EB HLP HEB hw4 hel ⊢
          clear hDD W4
          refine wpAny_of_held (S := fun W => W.cell? ⟨wr.heap.size, 0, none⟩ = some (.int .i64 e.f) ∧ W.cell? ⟨wr.heap.size, 1, none⟩ = some (.int .i64 e.t) ∧ W.cell? ⟨wr.heap.size, 2, none⟩ = some (.int .i64 e.w) ∧ W.cell? ⟨w.heap.size + 1, 5, none⟩ = some (.slice (some ⟨eb, eoff, none⟩) m d) ∧ W.cell? ⟨eb, eoff + k, none⟩ = some (.int .i64 x)) _ _ _ _ ?_
          refine wpAnyH_take (i := 0) (oi := ⟨_, _, _, _, _, _⟩) (v := .slice A1 ms.length c1) rfl (by kernel_rfl) (by kernel_rfl) (by kernel_rfl) (fun _ _ _ h => h) (Or.inl ⟨by kernel_rfl, fun W hS => by (obtain ⟨s0, s1, s2, s3, s4⟩ := hS); go_simp⟩) ⟨EB.out.cell (i := 0) rfl, EB.out.cell (i := 1) rfl, EB.out.cell (i := 2) rfl, RB.out.cell (i := 5) rfl, D2.out⟩ ?_
          (try simp only [Act.put, List.setIfInBounds_toArray, List.set_cons_zero, List.set_cons_succ])
          refine wpAnyH_take (i := 1) (oi := ⟨_, _, _, _, _, _⟩) (v := .pointer (some ⟨wr.heap.size, 1, none⟩)) rfl (by kernel_rfl) (by kernel_rfl) (by kernel_rfl) (fun _ _ _ h => h) (Or.inl ⟨by kernel_rfl, fun W hS => by (obtain ⟨s0, s1, s2, s3, s4⟩ := hS); go_simp⟩) ⟨EB.out.cell (i := 0) rfl, EB.out.cell (i := 1) rfl, EB.out.cell (i := 2) rfl, RB.out.cell (i := 5) rfl, D2.out⟩ ?_
          (try simp only [Act.put, List.setIfInBounds_toArray, List.set_cons_zero, List.set_cons_succ])
          refine wpAnyH_take (i := 2) (oi := ⟨_, _, _, _, _, _⟩) (v := .int .i64 e.t) rfl (by kernel_rfl) (by kernel_rfl) (by kernel_rfl) (fun _ _ _ h => h) (Or.inl ⟨by kernel_rfl, fun W hS => by (obtain ⟨s0, s1, s2, s3, s4⟩ := hS); go_simp⟩) ⟨EB.out.cell (i := 0) rfl, EB.out.cell (i := 1) rfl, EB.out.cell (i := 2) rfl, RB.out.cell (i := 5) rfl, D2.out⟩ ?_
          (try simp only [Act.put, List.setIfInBounds_toArray, List.set_cons_zero, List.set_cons_succ])
          refine wpAnyH_take (i := 3) (oi := ⟨_, _, _, _, _, _⟩) (v := .int .i64 v) rfl (by kernel_rfl) (by kernel_rfl) (by kernel_rfl) (fun _ _ _ h => h) (Or.inl ⟨by kernel_rfl, fun W hS => by (obtain ⟨s0, s1, s2, s3, s4⟩ := hS); go_simp⟩) ⟨EB.out.cell (i := 0) rfl, EB.out.cell (i := 1) rfl, EB.out.cell (i := 2) rfl, RB.out.cell (i := 5) rfl, D2.out⟩ ?_
          (try simp only [Act.put, List.setIfInBounds_toArray, List.set_cons_zero, List.set_cons_succ])
          refine wpAnyH_take (i := 4) (oi := ⟨_, _, _, _, _, _⟩) (v := .bool false) rfl (by kernel_rfl) (by kernel_rfl) (by kernel_rfl) (fun _ _ _ h => h) (Or.inl ⟨by kernel_rfl, fun W hS => by (obtain ⟨s0, s1, s2, s3, s4⟩ := hS); go_simp⟩) ⟨EB.out.cell (i := 0) rfl, EB.out.cell (i := 1) rfl, EB.out.cell (i := 2) rfl, RB.out.cell (i := 5) rfl, D2.out⟩ ?_
          (try simp only [Act.put, List.setIfInBounds_toArray, List.set_cons_zero, List.set_cons_succ])
          refine wpAnyH_take (i := 5) (oi := ⟨_, _, _, _, _, _⟩) (v := .pointer (some ⟨wr.heap.size, 0, none⟩)) rfl (by kernel_rfl) (by kernel_rfl) (by kernel_rfl) (fun _ _ _ h => h) (Or.inl ⟨by kernel_rfl, fun W hS => by (obtain ⟨s0, s1, s2, s3, s4⟩ := hS); go_simp⟩) ⟨EB.out.cell (i := 0) rfl, EB.out.cell (i := 1) rfl, EB.out.cell (i := 2) rfl, RB.out.cell (i := 5) rfl, D2.out⟩ ?_
          (try simp only [Act.put, List.setIfInBounds_toArray, List.set_cons_zero, List.set_cons_succ])
          refine wpAnyH_take (i := 6) (oi := ⟨_, _, _, _, _, _⟩) (v := .int .i64 e.f) rfl (by kernel_rfl) (by kernel_rfl) (by kernel_rfl) (fun _ _ _ h => h) (Or.inl ⟨by kernel_rfl, fun W hS => by (obtain ⟨s0, s1, s2, s3, s4⟩ := hS); go_simp⟩) ⟨EB.out.cell (i := 0) rfl, EB.out.cell (i := 1) rfl, EB.out.cell (i := 2) rfl, RB.out.cell (i := 5) rfl, D2.out⟩ ?_
          (try simp only [Act.put, List.setIfInBounds_toArray, List.set_cons_zero, List.set_cons_succ])
          refine wpAnyH_take (i := 7) (oi := ⟨_, _, _, _, _, _⟩) (v := .int .i64 v) rfl (by kernel_rfl) (by kernel_rfl) (by kernel_rfl) (fun _ _ _ h => h) (Or.inl ⟨by kernel_rfl, fun W hS => by (obtain ⟨s0, s1, s2, s3, s4⟩ := hS); go_simp⟩) ⟨EB.out.cell (i := 0) rfl, EB.out.cell (i := 1) rfl, EB.out.cell (i := 2) rfl, RB.out.cell (i := 5) rfl, D2.out⟩ ?_
          (try simp only [Act.put, List.setIfInBounds_toArray, List.set_cons_zero, List.set_cons_succ])
          refine wpAnyH_take (i := 8) (oi := ⟨_, _, _, _, _, _⟩) (v := .bool true) rfl (by kernel_rfl) (by kernel_rfl) (by kernel_rfl) (fun _ _ _ h => h) (Or.inl ⟨by kernel_rfl, fun W hS => by (obtain ⟨s0, s1, s2, s3, s4⟩ := hS); go_simp⟩) ⟨EB.out.cell (i := 0) rfl, EB.out.cell (i := 1) rfl, EB.out.cell (i := 2) rfl, RB.out.cell (i := 5) rfl, D2.out⟩ ?_
          (try simp only [Act.put, List.setIfInBounds_toArray, List.set_cons_zero, List.set_cons_succ])
          refine wpAnyH_take (i := 9) (oi := ⟨_, _, _, _, _, _⟩) (v := .pointer (some ⟨wr.heap.size, 2, none⟩)) rfl (by kernel_rfl) (by kernel_rfl) (by kernel_rfl) (fun _ _ _ h => h) (Or.inl ⟨by kernel_rfl, fun W hS => by (obtain ⟨s0, s1, s2, s3, s4⟩ := hS); go_simp⟩) ⟨EB.out.cell (i := 0) rfl, EB.out.cell (i := 1) rfl, EB.out.cell (i := 2) rfl, RB.out.cell (i := 5) rfl, D2.out⟩ ?_
          (try simp only [Act.put, List.setIfInBounds_toArray, List.set_cons_zero, List.set_cons_succ])
          refine wpAnyH_take (i := 10) (oi := ⟨_, _, _, _, _, _⟩) (v := .int .i64 e.w) rfl (by kernel_rfl) (by kernel_rfl) (by kernel_rfl) (fun _ _ _ h => h) (Or.inl ⟨by kernel_rfl, fun W hS => by (obtain ⟨s0, s1, s2, s3, s4⟩ := hS); go_simp⟩) ⟨EB.out.cell (i := 0) rfl, EB.out.cell (i := 1) rfl, EB.out.cell (i := 2) rfl, RB.out.cell (i := 5) rfl, D2.out⟩ ?_
          (try simp only [Act.put, List.setIfInBounds_toArray, List.set_cons_zero, List.set_cons_succ])
          refine wpAnyH_take (i := 11) (oi := ⟨_, _, _, _, _, _⟩) (v := .pointer (some ⟨w.heap.size + 1, 5, none⟩)) rfl (by kernel_rfl) (by kernel_rfl) (by kernel_rfl) (fun _ _ _ h => h) (Or.inl ⟨by kernel_rfl, fun W hS => by (obtain ⟨s0, s1, s2, s3, s4⟩ := hS); go_simp⟩) ⟨EB.out.cell (i := 0) rfl, EB.out.cell (i := 1) rfl, EB.out.cell (i := 2) rfl, RB.out.cell (i := 5) rfl, D2.out⟩ ?_
          (try simp only [Act.put, List.setIfInBounds_toArray, List.set_cons_zero, List.set_cons_succ])
          refine wpAnyH_take (i := 12) (oi := ⟨_, _, _, _, _, _⟩) (v := .slice (some ⟨eb, eoff, none⟩) m d) rfl (by kernel_rfl) (by kernel_rfl) (by kernel_rfl) (fun _ _ _ h => h) (Or.inl ⟨by kernel_rfl, fun W hS => by (obtain ⟨s0, s1, s2, s3, s4⟩ := hS); go_simp⟩) ⟨EB.out.cell (i := 0) rfl, EB.out.cell (i := 1) rfl, EB.out.cell (i := 2) rfl, RB.out.cell (i := 5) rfl, D2.out⟩ ?_
          (try simp only [Act.put, List.setIfInBounds_toArray, List.set_cons_zero, List.set_cons_succ])
          refine wpAnyH_take (i := 13) (oi := ⟨_, _, _, _, _, _⟩) (v := .int .i64 (k : Int)) rfl (by kernel_rfl) (by kernel_rfl) (by kernel_rfl) (fun _ _ _ h => h) (Or.inl ⟨by kernel_rfl, fun W hS => by (obtain ⟨s0, s1, s2, s3, s4⟩ := hS); go_simp⟩) ⟨EB.out.cell (i := 0) rfl, EB.out.cell (i := 1) rfl, EB.out.cell (i := 2) rfl, RB.out.cell (i := 5) rfl, D2.out⟩ ?_
          (try simp only [Act.put, List.setIfInBounds_toArray, List.set_cons_zero, List.set_cons_succ])
          refine wpAnyH_take (i := 14) (oi := ⟨_, _, _, _, _, _⟩) (v := .pointer (some ⟨eb, eoff + k, none⟩)) rfl (by kernel_rfl) (by kernel_rfl) (by kernel_rfl) (fun _ _ _ h => h) (Or.inl ⟨by kernel_rfl, fun W hS => by (obtain ⟨s0, s1, s2, s3, s4⟩ := hS); go_simp⟩) ⟨EB.out.cell (i := 0) rfl, EB.out.cell (i := 1) rfl, EB.out.cell (i := 2) rfl, RB.out.cell (i := 5) rfl, D2.out⟩ ?_
          (try simp only [Act.put, List.setIfInBounds_toArray, List.set_cons_zero, List.set_cons_succ])
          refine wpAnyH_take (i := 15) (oi := ⟨_, _, _, _, _, _⟩) (v := .int .i64 x) rfl (by kernel_rfl) (by kernel_rfl) (by kernel_rfl) (fun _ _ _ h => h) (Or.inl ⟨by kernel_rfl, fun W hS => by (obtain ⟨s0, s1, s2, s3, s4⟩ := hS); go_simp⟩) ⟨EB.out.cell (i := 0) rfl, EB.out.cell (i := 1) rfl, EB.out.cell (i := 2) rfl, RB.out.cell (i := 5) rfl, D2.out⟩ ?_
          (try simp only [Act.put, List.setIfInBounds_toArray, List.set_cons_zero, List.set_cons_succ])
          refine wpAnyH_take (i := 16) (oi := ⟨_, _, _, _, _, _⟩) (v := .agg #[.bool false, .bool true, .int .i64 e.w, .int .i64 x]) rfl (by kernel_rfl) (by kernel_rfl) (by kernel_rfl) (fun _ _ _ h => h) (Or.inl ⟨by kernel_rfl, fun W hS => by (obtain ⟨s0, s1, s2, s3, s4⟩ := hS); go_simp⟩) ⟨EB.out.cell (i := 0) rfl, EB.out.cell (i := 1) rfl, EB.out.cell (i := 2) rfl, RB.out.cell (i := 5) rfl, D2.out⟩ ?_
          (try simp only [Act.put, List.setIfInBounds_toArray, List.set_cons_zero, List.set_cons_succ])
          refine wpAnyH_ready (rs := [17]) (by kernel_rfl) (by simp) (AllReadyH.cons rfl (fun K hK => ?_) AllReadyH.nil)
          go_simp
          have hbz := below_a1 wd (.cells #[.bool false, .bool true, .int .i64 e.w, .int .i64 x] 94)
          have EB1 := Lib.hid (EB.out.below hbz)
          have RB1 := Lib.hid (RB.out.below hbz)
          have D21 := Lib.hid ((hbz.cell (p := ⟨eb, eoff + k, none⟩) HEB.out).trans D2.out)
          have EB0 := Lib.hid EB.out
          have RB0 := Lib.hid RB.out
          replace EB := EB1
          replace RB := RB1
          replace D2 := D21
          clear hbz
          refine hK.out _ _ ⟨EB.out.cell (i := 0) rfl, EB.out.cell (i := 1) rfl, EB.out.cell (i := 2) rfl, RB.out.cell (i := 5) rfl, D2.out⟩ (fun _ => ?_)
          clear hK K
          (try simp only [Act.put, List.setIfInBounds_toArray, List.set_cons_zero, List.set_cons_succ])
          refine wpAnyH_ready (rs := [18]) (by kernel_rfl) (by simp) (AllReadyH.cons rfl (fun K hK => ?_) AllReadyH.nil)
          refine step_append_any _ (by rfl) (.tmp 32) (.tmp 49) _ (by rfl) w.heap.size 94 j0 _ 4 24 Tryz.underlying79 hj jz0 jz1 jz2 rfl (by omega) (.slice A1 ms.length c1) ms.length ((ms.map (viewAt G ev v)).flatMap VE.cells) (by rfl) (ST.out.v.alloc _) (wd.heap.size + 1) (some ⟨wd.heap.size, 0, none⟩) 1 1 (VE.cells ⟨false, true, e.w, x⟩) (by rfl) (vw_reads _ ⟨false, true, e.w, x⟩ _ _ rfl) (VE.cells_one _) (by simp only [maxLen]; omega) (by omega) (by simp; omega) ?_
          intro v3 w3 hown3 hg3 hat3
          obtain ⟨P3, c3, rfl, -⟩ := own_formG hown3
          have HEBo : Hid (∀ z, (Value.slice A1 ms.length c1).ownBlock = some z → w.heap.size ≤ z) := Lib.hid (fun z hz => (ST.out.v.lt z hz).1)
          replace EB := Lib.hid (EB.out.grown hg3 (own_kind (own_below ST.out.v (below_a1 wd (.cells #[.bool false, .bool true, .int .i64 e.w, .int .i64 x] 94))) EB.out (by decide)))
          replace RB := Lib.hid (RB.out.grown hg3 (own_kind (own_below ST.out.v (below_a1 wd (.cells #[.bool false, .bool true, .int .i64 e.w, .int .i64 x] 94))) RB.out (by decide)))
          replace D2 := Lib.hid ((World.cell?_of_block (a := ⟨eb, eoff + k, none⟩) (hg3.block eb (by have := HEB.out; simp; omega) (fun hh => by have h9 := HEBo.out _ hh.symm; omega))).trans D2.out)
          refine hK.out _ _ ⟨EB.out.cell (i := 0) rfl, EB.out.cell (i := 1) rfl, EB.out.cell (i := 2) rfl, RB.out.cell (i := 5) rfl, D2.out⟩ (fun _ => ?_)
          clear hK K
          (try simp only [Act.put, List.setIfInBounds_toArray])
          refine wpAnyH_take (i := 19) (oi := ⟨_, _, _, _, _, _⟩) (v := .slice P3 (ms.length + 1) c3) rfl (by kernel_rfl) (by kernel_rfl) (by kernel_rfl) (fun _ _ _ h => h) (Or.inl ⟨by kernel_rfl, fun W hS => by (obtain ⟨s0, s1, s2, s3, s4⟩ := hS); go_simp⟩) ⟨EB.out.cell (i := 0) rfl, EB.out.cell (i := 1) rfl, EB.out.cell (i := 2) rfl, RB.out.cell (i := 5) rfl, D2.out⟩ ?_
          (try simp only [Act.put])
          refine wpAnyH_done (by kernel_rfl) ?_ _
          replace RB := RB0
          have hgq := hg3
          have HGV := Lib.hid (VSt.gotV (e := ⟨false, true, e.w, x⟩) ST.out hgq (by simpa using hown3))
          have HS3 := Lib.hid hg3.size
          have RB3 := Lib.hid ((RB.out.alloc (.cells #[.bool false, .bool true, .int .i64 e.w, .int .i64 x] 94)).grown hgq (own_kind ST.out.v RB.out (by decide)))
          clear hown3 hg3 hgq hat3 ST RB EB
          obtain ⟨hgv, hgi, hgb⟩ := HGV.out
          have HV3 := Lib.hid hgv
          have HI3 := Lib.hid hgi
          have HB3 := Lib.hid hgb
          have hw3 := HB3.out.size
          clear hgv hgi hgb HGV
          go_wp2_with (at_builtin; refine wpList_append_any _ rfl (.tmp 51) (.tmp 53) _ rfl w.heap.size 3 i0 _ 1 8 Tryz.underlying27 hi hz0 hz1 hz2 rfl (by omega) (.slice A2 ms.length c2) ms.length (vi (zI ms)) rfl (HI3.out.alloc (.cells #[.int .i64 (k : Int)] 3)) (w3.heap.size + 1) (some ⟨w3.heap.size, 0, none⟩) 1 1 [.int .i64 (k : Int)] rfl (lab_reads _ _ _ _ (by simp)) (lab_one _) (by simp only [maxLen]; omega) (by omega) (by simp; omega) ?_)
          intro v5 w5 hown5 hg5 hat5
          obtain ⟨P5, c5, rfl, -⟩ := own_formG hown5
          have HN : Hid (VSt w w5 P3 c3 P5 c5 (ms.map (viewAt G ev v) ++ [⟨false, true, e.w, x⟩]) (ms ++ [k])) := Lib.hid (VSt.gotI HV3.out HI3.out HB3.out rfl hg5 (by simpa using hown5))
          have RB5 := Lib.hid ((RB3.out.alloc (.cells #[.int .i64 (k : Int)] 3)).grown hg5 (own_kind HI3.out RB3.out (by decide)))
          clear hown5 hg5 hat5 HV3 HI3 HB3 RB3
          have hln : (ms ++ [k]).length = ms.length + 1 := by simp
          have HFN : Hid (viewsT G ev v (k + 1) = ms.map (viewAt G ev v) ++ [⟨false, true, e.w, x⟩]) := Lib.hid (by rw [HF.out, HIX.out, HMS.out, List.map_append, List.map_cons, HVX.out]; rfl)
          have HIN : Hid (idxT G v (k + 1) = ms ++ [k]) := Lib.hid (by rw [HIX.out, HMS.out])
          go_wp2
          go_roundw
          case rel => exact ⟨k + 1, P3, c3, P5, c5, by omega, by go_num, by rw [HIN.out, hln], by rw [HIN.out, hln], RB5, by rw [HIN.out, HFN.out]; exact HN⟩
          case measure => simp [intOf]; omega
      · have hf1 : (e.f == v) = false := by simp [hf]
        have HFF := Lib.hid hf
        clear hf
        by_cases ht : e.t = v
        · have ht1 : (e.t == v) = true := by simp [ht]
          have HTT := Lib.hid ht
          clear ht
          have HIX := Lib.hid (idx_yes he.out (.inr HTT.out))
          have HVX : Hid (viewAt G ev v k = ⟨true, false, e.w, x⟩) := Lib.hid (by rw [viewAt_is he.out hx.out]; simp [HTT.out, HFF.out])
          go_upto_region 7 with fail
          clear c0 c1' c2' e0 e1 e2 f0 f1 f2 hst hbx HBA
          have hw4 : w.heap.size ≤ (wr.alloc (.cells #[.int .i64 e.f, .int .i64 e.t, .int .i64 e.w] 86)).heap.size := by have := HW.out; simp; omega
          have HLP : Hid (wr.heap.size < (wr.alloc (.cells #[.int .i64 e.f, .int .i64 e.t, .int .i64 e.w] 86)).heap.size) := Lib.hid (by simp)
          generalize hWW : (wr.alloc (.cells #[.int .i64 e.f, .int .i64 e.t, .int .i64 e.w] 86)) = W4 at RB ST D2 EB HLP hw4 ⊢
          clear hWW HLE
          have r5 := RB.out.cell (i := 5) rfl
          have rl := RB.out.lt
          have x0 := D2.out
          have e0 := EB.out.cell (i := 0) rfl
          have e1 := EB.out.cell (i := 1) rfl
          have e2 := EB.out.cell (i := 2) rfl
          have hel := HLP.out
          have OV0 := Lib.hid ST.out.v
          refine wp_region_any (by kernel_rfl) ?_
          change wpAny _ _ _ _ _ _ _ (World.drew _)
          clear r5 rl x0 e0 e1 e2 OV0
          replace RB := Lib.hid (RB.out.drewN 1)
          replace EB := Lib.hid (EB.out.drewN 1)
          replace ST := Lib.hid (ST.out.drewN 1)
          replace D2 : Hid ((World.drew W4).cell? ⟨eb, eoff + k, none⟩ = some (.int .i64 x)) := Lib.hid D2.out
          replace HLP : Hid (wr.heap.size < (World.drew W4).heap.size) := Lib.hid HLP.out
          replace hw4 : w.heap.size ≤ (World.drew W4).heap.size := hw4
          replace hel := HLP.out
          have HEB : Hid (eb < (World.drew W4).heap.size) := Lib.hid (by have h1 := HLP.out; have h2 := HW.out; omega)
          change Hid (Blk (World.drew W4) _ _ _) at RB EB
          change Hid (VSt w (World.drew W4) _ _ _ _ _ _) at ST
          generalize hDD : World.drew W4 = wd at RB ST D2 EB HLP HEB hw4 hel ⊢
          clear hDD W4
          refine wpAny_of_held (S := fun W => W.cell? ⟨wr.heap.size, 0, none⟩ = some (.int .i64 e.f) ∧ W.cell? ⟨wr.heap.size, 1, none⟩ = some (.int .i64 e.t) ∧ W.cell? ⟨wr.heap.size, 2, none⟩ = some (.int .i64 e.w) ∧ W.cell? ⟨w.heap.size + 1, 5, none⟩ = some (.slice (some ⟨eb, eoff, none⟩) m d) ∧ W.cell? ⟨eb, eoff + k, none⟩ = some (.int .i64 x)) _ _ _ _ ?_
          refine wpAnyH_take (i := 0) (oi := ⟨_, _, _, _, _, _⟩) (v := .slice A1 ms.length c1) rfl (by kernel_rfl) (by kernel_rfl) (by kernel_rfl) (fun _ _ _ h => h) (Or.inl ⟨by kernel_rfl, fun W hS => by (obtain ⟨s0, s1, s2, s3, s4⟩ := hS); go_simp⟩) ⟨EB.out.cell (i := 0) rfl, EB.out.cell (i := 1) rfl, EB.out.cell (i := 2) rfl, RB.out.cell (i := 5) rfl, D2.out⟩ ?_
          (try simp only [Act.put, List.setIfInBounds_toArray, List.set_cons_zero, List.set_cons_succ])
          refine wpAnyH_take (i := 1) (oi := ⟨_, _, _, _, _, _⟩) (v := .pointer (some ⟨wr.heap.size, 1, none⟩)) rfl (by kernel_rfl) (by kernel_rfl) (by kernel_rfl) (fun _ _ _ h => h) (Or.inl ⟨by kernel_rfl, fun W hS => by (obtain ⟨s0, s1, s2, s3, s4⟩ := hS); go_simp⟩) ⟨EB.out.cell (i := 0) rfl, EB.out.cell (i := 1) rfl, EB.out.cell (i := 2) rfl, RB.out.cell (i := 5) rfl, D2.out⟩ ?_
          (try simp only [Act.put, List.setIfInBounds_toArray, List.set_cons_zero, List.set_cons_succ])
          refine wpAnyH_take (i := 2) (oi := ⟨_, _, _, _, _, _⟩) (v := .int .i64 e.t) rfl (by kernel_rfl) (by kernel_rfl) (by kernel_rfl) (fun _ _ _ h => h) (Or.inl ⟨by kernel_rfl, fun W hS => by (obtain ⟨s0, s1, s2, s3, s4⟩ := hS); go_simp⟩) ⟨EB.out.cell (i := 0) rfl, EB.out.cell (i := 1) rfl, EB.out.cell (i := 2) rfl, RB.out.cell (i := 5) rfl, D2.out⟩ ?_
          (try simp only [Act.put, List.setIfInBounds_toArray, List.set_cons_zero, List.set_cons_succ])
          refine wpAnyH_take (i := 3) (oi := ⟨_, _, _, _, _, _⟩) (v := .int .i64 v) rfl (by kernel_rfl) (by kernel_rfl) (by kernel_rfl) (fun _ _ _ h => h) (Or.inl ⟨by kernel_rfl, fun W hS => by (obtain ⟨s0, s1, s2, s3, s4⟩ := hS); go_simp⟩) ⟨EB.out.cell (i := 0) rfl, EB.out.cell (i := 1) rfl, EB.out.cell (i := 2) rfl, RB.out.cell (i := 5) rfl, D2.out⟩ ?_
          (try simp only [Act.put, List.setIfInBounds_toArray, List.set_cons_zero, List.set_cons_succ])
          refine wpAnyH_take (i := 4) (oi := ⟨_, _, _, _, _, _⟩) (v := .bool true) rfl (by kernel_rfl) (by kernel_rfl) (by kernel_rfl) (fun _ _ _ h => h) (Or.inl ⟨by kernel_rfl, fun W hS => by (obtain ⟨s0, s1, s2, s3, s4⟩ := hS); go_simp⟩) ⟨EB.out.cell (i := 0) rfl, EB.out.cell (i := 1) rfl, EB.out.cell (i := 2) rfl, RB.out.cell (i := 5) rfl, D2.out⟩ ?_
          (try simp only [Act.put, List.setIfInBounds_toArray, List.set_cons_zero, List.set_cons_succ])
          refine wpAnyH_take (i := 5) (oi := ⟨_, _, _, _, _, _⟩) (v := .pointer (some ⟨wr.heap.size, 0, none⟩)) rfl (by kernel_rfl) (by kernel_rfl) (by kernel_rfl) (fun _ _ _ h => h) (Or.inl ⟨by kernel_rfl, fun W hS => by (obtain ⟨s0, s1, s2, s3, s4⟩ := hS); go_simp⟩) ⟨EB.out.cell (i := 0) rfl, EB.out.cell (i := 1) rfl, EB.out.cell (i := 2) rfl, RB.out.cell (i := 5) rfl, D2.out⟩ ?_
          (try simp only [Act.put, List.setIfInBounds_toArray, List.set_cons_zero, List.set_cons_succ])
          refine wpAnyH_take (i := 6) (oi := ⟨_, _, _, _, _, _⟩) (v := .int .i64 e.f) rfl (by kernel_rfl) (by kernel_rfl) (by kernel_rfl) (fun _ _ _ h => h) (Or.inl ⟨by kernel_rfl, fun W hS => by (obtain ⟨s0, s1, s2, s3, s4⟩ := hS); go_simp⟩) ⟨EB.out.cell (i := 0) rfl, EB.out.cell (i := 1) rfl, EB.out.cell (i := 2) rfl, RB.out.cell (i := 5) rfl, D2.out⟩ ?_
          (try simp only [Act.put, List.setIfInBounds_toArray, List.set_cons_zero, List.set_cons_succ])
          refine wpAnyH_take (i := 7) (oi := ⟨_, _, _, _, _, _⟩) (v := .int .i64 v) rfl (by kernel_rfl) (by kernel_rfl) (by kernel_rfl) (fun _ _ _ h => h) (Or.inl ⟨by kernel_rfl, fun W hS => by (obtain ⟨s0, s1, s2, s3, s4⟩ := hS); go_simp⟩) ⟨EB.out.cell (i := 0) rfl, EB.out.cell (i := 1) rfl, EB.out.cell (i := 2) rfl, RB.out.cell (i := 5) rfl, D2.out⟩ ?_
          (try simp only [Act.put, List.setIfInBounds_toArray, List.set_cons_zero, List.set_cons_succ])
          refine wpAnyH_take (i := 8) (oi := ⟨_, _, _, _, _, _⟩) (v := .bool false) rfl (by kernel_rfl) (by kernel_rfl) (by kernel_rfl) (fun _ _ _ h => h) (Or.inl ⟨by kernel_rfl, fun W hS => by (obtain ⟨s0, s1, s2, s3, s4⟩ := hS); go_simp⟩) ⟨EB.out.cell (i := 0) rfl, EB.out.cell (i := 1) rfl, EB.out.cell (i := 2) rfl, RB.out.cell (i := 5) rfl, D2.out⟩ ?_
          (try simp only [Act.put, List.setIfInBounds_toArray, List.set_cons_zero, List.set_cons_succ])
          refine wpAnyH_take (i := 9) (oi := ⟨_, _, _, _, _, _⟩) (v := .pointer (some ⟨wr.heap.size, 2, none⟩)) rfl (by kernel_rfl) (by kernel_rfl) (by kernel_rfl) (fun _ _ _ h => h) (Or.inl ⟨by kernel_rfl, fun W hS => by (obtain ⟨s0, s1, s2, s3, s4⟩ := hS); go_simp⟩) ⟨EB.out.cell (i := 0) rfl, EB.out.cell (i := 1) rfl, EB.out.cell (i := 2) rfl, RB.out.cell (i := 5) rfl, D2.out⟩ ?_
          (try simp only [Act.put, List.setIfInBounds_toArray, List.set_cons_zero, List.set_cons_succ])
          refine wpAnyH_take (i := 10) (oi := ⟨_, _, _, _, _, _⟩) (v := .int .i64 e.w) rfl (by kernel_rfl) (by kernel_rfl) (by kernel_rfl) (fun _ _ _ h => h) (Or.inl ⟨by kernel_rfl, fun W hS => by (obtain ⟨s0, s1, s2, s3, s4⟩ := hS); go_simp⟩) ⟨EB.out.cell (i := 0) rfl, EB.out.cell (i := 1) rfl, EB.out.cell (i := 2) rfl, RB.out.cell (i := 5) rfl, D2.out⟩ ?_
          (try simp only [Act.put, List.setIfInBounds_toArray, List.set_cons_zero, List.set_cons_succ])
          refine wpAnyH_take (i := 11) (oi := ⟨_, _, _, _, _, _⟩) (v := .pointer (some ⟨w.heap.size + 1, 5, none⟩)) rfl (by kernel_rfl) (by kernel_rfl) (by kernel_rfl) (fun _ _ _ h => h) (Or.inl ⟨by kernel_rfl, fun W hS => by (obtain ⟨s0, s1, s2, s3, s4⟩ := hS); go_simp⟩) ⟨EB.out.cell (i := 0) rfl, EB.out.cell (i := 1) rfl, EB.out.cell (i := 2) rfl, RB.out.cell (i := 5) rfl, D2.out⟩ ?_
          (try simp only [Act.put, List.setIfInBounds_toArray, List.set_cons_zero, List.set_cons_succ])
          refine wpAnyH_take (i := 12) (oi := ⟨_, _, _, _, _, _⟩) (v := .slice (some ⟨eb, eoff, none⟩) m d) rfl (by kernel_rfl) (by kernel_rfl) (by kernel_rfl) (fun _ _ _ h => h) (Or.inl ⟨by kernel_rfl, fun W hS => by (obtain ⟨s0, s1, s2, s3, s4⟩ := hS); go_simp⟩) ⟨EB.out.cell (i := 0) rfl, EB.out.cell (i := 1) rfl, EB.out.cell (i := 2) rfl, RB.out.cell (i := 5) rfl, D2.out⟩ ?_
          (try simp only [Act.put, List.setIfInBounds_toArray, List.set_cons_zero, List.set_cons_succ])
          refine wpAnyH_take (i := 13) (oi := ⟨_, _, _, _, _, _⟩) (v := .int .i64 (k : Int)) rfl (by kernel_rfl) (by kernel_rfl) (by kernel_rfl) (fun _ _ _ h => h) (Or.inl ⟨by kernel_rfl, fun W hS => by (obtain ⟨s0, s1, s2, s3, s4⟩ := hS); go_simp⟩) ⟨EB.out.cell (i := 0) rfl, EB.out.cell (i := 1) rfl, EB.out.cell (i := 2) rfl, RB.out.cell (i := 5) rfl, D2.out⟩ ?_
          (try simp only [Act.put, List.setIfInBounds_toArray, List.set_cons_zero, List.set_cons_succ])
          refine wpAnyH_take (i := 14) (oi := ⟨_, _, _, _, _, _⟩) (v := .pointer (some ⟨eb, eoff + k, none⟩)) rfl (by kernel_rfl) (by kernel_rfl) (by kernel_rfl) (fun _ _ _ h => h) (Or.inl ⟨by kernel_rfl, fun W hS => by (obtain ⟨s0, s1, s2, s3, s4⟩ := hS); go_simp⟩) ⟨EB.out.cell (i := 0) rfl, EB.out.cell (i := 1) rfl, EB.out.cell (i := 2) rfl, RB.out.cell (i := 5) rfl, D2.out⟩ ?_
          (try simp only [Act.put, List.setIfInBounds_toArray, List.set_cons_zero, List.set_cons_succ])
          refine wpAnyH_take (i := 15) (oi := ⟨_, _, _, _, _, _⟩) (v := .int .i64 x) rfl (by kernel_rfl) (by kernel_rfl) (by kernel_rfl) (fun _ _ _ h => h) (Or.inl ⟨by kernel_rfl, fun W hS => by (obtain ⟨s0, s1, s2, s3, s4⟩ := hS); go_simp⟩) ⟨EB.out.cell (i := 0) rfl, EB.out.cell (i := 1) rfl, EB.out.cell (i := 2) rfl, RB.out.cell (i := 5) rfl, D2.out⟩ ?_
          (try simp only [Act.put, List.setIfInBounds_toArray, List.set_cons_zero, List.set_cons_succ])
          refine wpAnyH_take (i := 16) (oi := ⟨_, _, _, _, _, _⟩) (v := .agg #[.bool true, .bool false, .int .i64 e.w, .int .i64 x]) rfl (by kernel_rfl) (by kernel_rfl) (by kernel_rfl) (fun _ _ _ h => h) (Or.inl ⟨by kernel_rfl, fun W hS => by (obtain ⟨s0, s1, s2, s3, s4⟩ := hS); go_simp⟩) ⟨EB.out.cell (i := 0) rfl, EB.out.cell (i := 1) rfl, EB.out.cell (i := 2) rfl, RB.out.cell (i := 5) rfl, D2.out⟩ ?_
          (try simp only [Act.put, List.setIfInBounds_toArray, List.set_cons_zero, List.set_cons_succ])
          refine wpAnyH_ready (rs := [17]) (by kernel_rfl) (by simp) (AllReadyH.cons rfl (fun K hK => ?_) AllReadyH.nil)
          go_simp
          have hbz := below_a1 wd (.cells #[.bool true, .bool false, .int .i64 e.w, .int .i64 x] 94)
          have EB1 := Lib.hid (EB.out.below hbz)
          have RB1 := Lib.hid (RB.out.below hbz)
          have D21 := Lib.hid ((hbz.cell (p := ⟨eb, eoff + k, none⟩) HEB.out).trans D2.out)
          have EB0 := Lib.hid EB.out
          have RB0 := Lib.hid RB.out
          replace EB := EB1
          replace RB := RB1
          replace D2 := D21
          clear hbz
          refine hK.out _ _ ⟨EB.out.cell (i := 0) rfl, EB.out.cell (i := 1) rfl, EB.out.cell (i := 2) rfl, RB.out.cell (i := 5) rfl, D2.out⟩ (fun _ => ?_)
          clear hK K
          (try simp only [Act.put, List.setIfInBounds_toArray, List.set_cons_zero, List.set_cons_succ])
          refine wpAnyH_ready (rs := [18]) (by kernel_rfl) (by simp) (AllReadyH.cons rfl (fun K hK => ?_) AllReadyH.nil)
          refine step_append_any _ (by rfl) (.tmp 32) (.tmp 49) _ (by rfl) w.heap.size 94 j0 _ 4 24 Tryz.underlying79 hj jz0 jz1 jz2 rfl (by omega) (.slice A1 ms.length c1) ms.length ((ms.map (viewAt G ev v)).flatMap VE.cells) (by rfl) (ST.out.v.alloc _) (wd.heap.size + 1) (some ⟨wd.heap.size, 0, none⟩) 1 1 (VE.cells ⟨true, false, e.w, x⟩) (by rfl) (vw_reads _ ⟨true, false, e.w, x⟩ _ _ rfl) (VE.cells_one _) (by simp only [maxLen]; omega) (by omega) (by simp; omega) ?_
          intro v3 w3 hown3 hg3 hat3
          obtain ⟨P3, c3, rfl, -⟩ := own_formG hown3
          have HEBo : Hid (∀ z, (Value.slice A1 ms.length c1).ownBlock = some z → w.heap.size ≤ z) := Lib.hid (fun z hz => (ST.out.v.lt z hz).1)
          replace EB := Lib.hid (EB.out.grown hg3 (own_kind (own_below ST.out.v (below_a1 wd (.cells #[.bool true, .bool false, .int .i64 e.w, .int .i64 x] 94))) EB.out (by decide)))
          replace RB := Lib.hid (RB.out.grown hg3 (own_kind (own_below ST.out.v (below_a1 wd (.cells #[.bool true, .bool false, .int .i64 e.w, .int .i64 x] 94))) RB.out (by decide)))
          replace D2 := Lib.hid ((World.cell?_of_block (a := ⟨eb, eoff + k, none⟩) (hg3.block eb (by have := HEB.out; simp; omega) (fun hh => by have h9 := HEBo.out _ hh.symm; omega))).trans D2.out)
          refine hK.out _ _ ⟨EB.out.cell (i := 0) rfl, EB.out.cell (i := 1) rfl, EB.out.cell (i := 2) rfl, RB.out.cell (i := 5) rfl, D2.out⟩ (fun _ => ?_)
          clear hK K
          (try simp only [Act.put, List.setIfInBounds_toArray])
          refine wpAnyH_take (i := 19) (oi := ⟨_, _, _, _, _, _⟩) (v := .slice P3 (ms.length + 1) c3) rfl (by kernel_rfl) (by kernel_rfl) (by kernel_rfl) (fun _ _ _ h => h) (Or.inl ⟨by kernel_rfl, fun W hS => by (obtain ⟨s0, s1, s2, s3, s4⟩ := hS); go_simp⟩) ⟨EB.out.cell (i := 0) rfl, EB.out.cell (i := 1) rfl, EB.out.cell (i := 2) rfl, RB.out.cell (i := 5) rfl, D2.out⟩ ?_
          (try simp only [Act.put])
          refine wpAnyH_done (by kernel_rfl) ?_ _
          replace RB := RB0
          have hgq := hg3
          have HGV := Lib.hid (VSt.gotV (e := ⟨true, false, e.w, x⟩) ST.out hgq (by simpa using hown3))
          have HS3 := Lib.hid hg3.size
          have RB3 := Lib.hid ((RB.out.alloc (.cells #[.bool true, .bool false, .int .i64 e.w, .int .i64 x] 94)).grown hgq (own_kind ST.out.v RB.out (by decide)))
          clear hown3 hg3 hgq hat3 ST RB EB
          obtain ⟨hgv, hgi, hgb⟩ := HGV.out
          have HV3 := Lib.hid hgv
          have HI3 := Lib.hid hgi
          have HB3 := Lib.hid hgb
          have hw3 := HB3.out.size
          clear hgv hgi hgb HGV
          go_wp2_with (at_builtin; refine wpList_append_any _ rfl (.tmp 51) (.tmp 53) _ rfl w.heap.size 3 i0 _ 1 8 Tryz.underlying27 hi hz0 hz1 hz2 rfl (by omega) (.slice A2 ms.length c2) ms.length (vi (zI ms)) rfl (HI3.out.alloc (.cells #[.int .i64 (k : Int)] 3)) (w3.heap.size + 1) (some ⟨w3.heap.size, 0, none⟩) 1 1 [.int .i64 (k : Int)] rfl (lab_reads _ _ _ _ (by simp)) (lab_one _) (by simp only [maxLen]; omega) (by omega) (by simp; omega) ?_)
          intro v5 w5 hown5 hg5 hat5
          obtain ⟨P5, c5, rfl, -⟩ := own_formG hown5
          have HN : Hid (VSt w w5 P3 c3 P5 c5 (ms.map (viewAt G ev v) ++ [⟨true, false, e.w, x⟩]) (ms ++ [k])) := Lib.hid (VSt.gotI HV3.out HI3.out HB3.out rfl hg5 (by simpa using hown5))
          have RB5 := Lib.hid ((RB3.out.alloc (.cells #[.int .i64 (k : Int)] 3)).grown hg5 (own_kind HI3.out RB3.out (by decide)))
          clear hown5 hg5 hat5 HV3 HI3 HB3 RB3
          have hln : (ms ++ [k]).length = ms.length + 1 := by simp
          have HFN : Hid (viewsT G ev v (k + 1) = ms.map (viewAt G ev v) ++ [⟨true, false, e.w, x⟩]) := Lib.hid (by rw [HF.out, HIX.out, HMS.out, List.map_append, List.map_cons, HVX.out]; rfl)
          have HIN : Hid (idxT G v (k + 1) = ms ++ [k]) := Lib.hid (by rw [HIX.out, HMS.out])
          go_wp2
          go_roundw
          case rel => exact ⟨k + 1, P3, c3, P5, c5, by omega, by go_num, by rw [HIN.out, hln], by rw [HIN.out, hln], RB5, by rw [HIN.out, HFN.out]; exact HN⟩
          case measure => simp [intOf]; omega
        · have ht1 : (e.t == v) = false := by simp [ht]
          have HTT := Lib.hid ht
          clear ht
          have HIX := Lib.hid (idx_no he.out HFF.out HTT.out)
          have RB5 := Lib.hid RB.out
          have ST5 := Lib.hid ST.out
          clear hst hbx
          have HFN : Hid (viewsT G ev v (k + 1) = ms.map (viewAt G ev v)) := Lib.hid (by rw [HF.out, HIX.out, HMS.out])
          have HIN : Hid (idxT G v (k + 1) = ms) := Lib.hid (by rw [HIX.out, HMS.out])
          go_wp2
          go_roundw
          case rel => exact ⟨k + 1, A1, c1, A2, c2, by omega, by go_num, by rw [HIN.out], by rw [HIN.out], by first | exact RB5 | exact Lib.hid (RB5.out.drewN _), by rw [HIN.out, HFN.out]; first | exact ST5 | exact Lib.hid (ST5.out.drewN _)⟩
          case measure => simp [intOf]; omega
    · obtain rfl : k = l := by omega
      have HS := Lib.hid hst.out
      clear hst
      go_wp2
      go_ret2
      rw [HF.out, HMS.out]
      exact ⟨A1, c1, A2, c2, rfl, HS.out.v, HS.out.i, HS.out.h⟩
end Go.Proofs.YtpgnappddddlpaaGreatDoor
