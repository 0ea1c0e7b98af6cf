/- The contracts of the model's l11Other and l11Vertex: a vertex of a run updated. Conditions: the run's parts are as the graph asks (Good), the vertex is one of the graph. -/
import Derived.Test.YtpgnappddddlpaaGreatDoorCGE
import Derived.Test.YtpgnappddddlpaaGreatDoorKViewsS
import Derived.Test.YtpgnappddddlpaaGreatDoorCGI
import Derived.Test.YtpgnappddddlpaaGreatDoorCGK
import Derived.Deep.Cut
import Derived.Deep.RegionLaw
import Derived.StillTailTactics
namespace Go.Proofs.YtpgnappddddlpaaGreatDoor
open Go.RowKit
set_option linter.unusedVariables false

theorem ap_symm' {a b : Option Nat} (h : a = none ∨ b ≠ a) : b = none ∨ a ≠ b := by
  rcases h with h | h
  · cases b with
    | none => exact .inl rfl
    | some x => exact .inr (by rw [h]; simp)
  · exact .inr (fun e => h e.symm)
theorem specOther (e : GE) (v : Int) (w : World) :
    Calls Tryz.prog 54 #[.agg #[.int .i64 e.f, .int .i64 e.t, .int .i64 e.w], .int .i64 v] w (GNum w (otherE e v)) := by
  unfold otherE
  by_cases h : e.f = v
  · rw [if_pos h]
    go_enter Tryz.func54, Tryz.ntmps54
    go_wp2
    go_ret
    exact ⟨rfl, below_a1 _ _⟩
  · rw [if_neg h]
    go_enter Tryz.func54, Tryz.ntmps54
    go_wp2
    go_ret
    exact ⟨rfl, below_a1 _ _⟩
set_option maxRecDepth 20000 in
set_option maxHeartbeats 8000000 in
theorem specVertexRun (w0 w : World) (p s it : Int) (dn : Bool) (A : Option Addr) (n c : Nat) (B : Option Addr) (m d : Nat) (C : Option Addr) (j k : Nat) (D : Option Addr) (q e : Nat) (vs ev : List Int) (nx nw : List Nat) (N : Nat) (AG : Option Addr) (l cG : Nat) (G : List GE) (v : Nat) (hg : SlG w0 AG l G) (hG : graphB (N : Int) G = true) (hp : 1 ≤ p ∧ p ≤ 4) (hgood : Good p N G ⟨vs, ev, nx, nw⟩) (hv : v < N) (hr3 : Rows3 w w0.heap.size A n c B m d C j k vs ev nx) (hrd : w.ownsRow w0.heap.size 5 1 (.slice D q e) q (vb nw)) (hap : (Value.slice C j k).ownBlock = none ∨ (Value.slice D q e).ownBlock ≠ (Value.slice C j k).ownBlock) (hbl : Below w0.heap.size w0 w) :
    Calls Tryz.prog 25 #[.agg #[.int .i64 (N : Int), .slice AG l cG], .agg #[.int .i64 p, .int .i64 s, .int .i64 it, .bool dn, .slice A n c, .slice B m d, .int .i64 (N : Int), .slice C j k], .agg #[.int .i64 (N : Int), .slice D q e], .int .i64 (v : Int)] w (MadeVt w0 w p s it dn A n c B m d (N : Int) (N : Int) (vstep p (N : Int) G ⟨vs, ev, nx, nw⟩ v)) := by
  obtain ⟨hnl, hml, hjl⟩ := hr3.len
  have hql : nw.length = q := by have h9 := hrd.1; rw [vb_length] at h9; omega
  have hvl := hgood.vl
  have hel := hgood.el
  simp only at hvl hel
  have hgl := hg.len
  have hG3 := graphB_iff hG
  have hj := (setB_dim hgood.nx).2.2
  have hq := (setB_dim hgood.nw).2.2
  simp only [Int.toNat_natCast] at hj hq
  obtain rfl : n = N := by omega
  obtain rfl : m = l := by omega
  subst hgl
  have hup := upd_good hp hG hgood hv
  have hy := upd_yes hup
  simp only at hup hy
  obtain ⟨x, hx⟩ : ∃ x, x = vs.getD v 0 := ⟨_, rfl⟩
  rw [← hx] at hup hy
  have HIL : Hid ((viewsT G ev (v : Int) G.length).length = (idxT G (v : Int) G.length).length) := Lib.hid (by unfold viewsT; rw [List.length_map])
  have hil := idx_len G (v : Int) G.length
  have CV := Lib.hid (fun W (h : USt w0 W (w.heap.size + 1) p s it dn A n c B G.length d (n : Int) C j k D q e vs ev nx nw) => specViewsOf (n : Int) AG G.length cG G (v : Int) p s it dn A n c B G.length d (n : Int) C j k ev W (hg.below h.h) (SlI.of_own h.r.e) (Nat.le_refl _) (by omega))
  have CU := Lib.hid (fun W A1 c1 (h : SlV W A1 (idxT G (v : Int) G.length).length (viewsT G ev (v : Int) G.length)) => specUpdate p s (v : Int) x A1 (idxT G (v : Int) G.length).length c1 (viewsT G ev (v : Int) G.length) W h (by omega))
  rw [hy.1, hy.2] at CU
  have HNV : Hid (newAt p G ⟨vs, ev, nx, nw⟩ v = newVal p x (viewsT G ev (v : Int) G.length)) := Lib.hid (by unfold newAt; rw [hx])
  have HNE : Hid (∀ i, edgeNew p G ⟨vs, ev, nx, nw⟩ v i = newEdge p (newVal p x (viewsT G ev (v : Int) G.length)) (outsN (viewsT G ev (v : Int) G.length)) (viewAt G ev (v : Int) i)) := Lib.hid (fun i => by unfold edgeNew; rw [HNV.out])
  have HVW : Hid (∀ r : Nat, (viewsT G ev (v : Int) G.length)[r]? = ((idxT G (v : Int) G.length)[r]?).map (viewAt G ev (v : Int))) := Lib.hid (fun r => by unfold viewsT; rw [List.getElem?_map])
  unfold MadeU at CU
  simp only [List.length_map, HIL.out] at CU
  obtain ⟨nv, hnv⟩ : ∃ nv, nv = newVal p x (viewsT G ev (v : Int) G.length) := ⟨_, rfl⟩
  rw [← hnv] at CU HNV HNE
  obtain ⟨ys, hys⟩ : ∃ ys, ys = (viewsT G ev (v : Int) G.length).map (newEdge p nv (outsN (viewsT G ev (v : Int) G.length))) := ⟨_, rfl⟩
  rw [← hys] at CU
  have HYS : Hid (∀ r i : Nat, (idxT G (v : Int) G.length)[r]? = some i → ys[r]? = some (edgeNew p G ⟨vs, ev, nx, nw⟩ v i)) := Lib.hid (fun r i hr => by rw [hys, List.getElem?_map, HVW.out, hr, HNE.out]; rfl)
  have HX : Hid (vs[v]? = some x) := Lib.hid (by rw [hx, List.getD_eq_getElem?_getD, List.getElem?_eq_getElem (by omega)]; rfl)
  have HGD := Lib.hid hgood
  have HGG := Lib.hid hG
  have HSG := Lib.hid hg
  have HJ := Lib.hid hj
  have HQ := Lib.hid hq
  have HID := Lib.hid (idx_nodup G (v : Int) G.length)
  have HIM : Hid (∀ i, i ∈ idxT G (v : Int) G.length → i < G.length) := Lib.hid (fun i hi => (idx_mem.1 hi).1)
  have HTK := Lib.hid (fun k => atK_ok (p := p) hG v (edgeNew p G ⟨vs, ev, nx, nw⟩ v) ⟨vs.set v nv, ev, nx, nw⟩ hel hgood.nx hgood.nw k)
  have HVS : Hid (vstep p (n : Int) G ⟨vs, ev, nx, nw⟩ v = atK (n : Int) G v (edgeNew p G ⟨vs, ev, nx, nw⟩ v) ⟨vs.set v nv, ev, nx, nw⟩ G.length (idxT G (v : Int) G.length).length) := Lib.hid (by rw [atK_full]; unfold vstep; rw [HNV.out])
  have HT0 : Hid (atK (n : Int) G v (edgeNew p G ⟨vs, ev, nx, nw⟩ v) ⟨vs.set v nv, ev, nx, nw⟩ G.length 0 = ⟨vs.set v nv, ev, nx, nw⟩) := Lib.hid rfl
  have HST' := Lib.hid (fun k i (h : (idxT G (v : Int) G.length)[k]? = some i) => atK_step (N := (n : Int)) (f := edgeNew p G ⟨vs, ev, nx, nw⟩ v) (S := ⟨vs.set v nv, ev, nx, nw⟩) h)
  have hG400 := hG3.2.2.1
  have hN150 := hG3.2.1
  clear hx hup hy hnv hys hgood hG hg hj hq hG3 HIL hvl
  have hwl : w0.heap.size ≤ w.heap.size := hbl.size
  have OA : Hid (∀ g, (Value.slice A n c).ownBlock = some g → g < w.heap.size) := Lib.hid (fun g hg => (hr3.v.lt g hg).2)
  have OB : Hid (∀ g, (Value.slice B G.length d).ownBlock = some g → g < w.heap.size) := Lib.hid (fun g hg => (hr3.e.lt g hg).2)
  obtain ⟨gA, rfl⟩ := g_own_at hr3.v (by omega)
  have HB5 := Lib.hid (g_chain (below_a3 w (.cells #[.int .i64 (n : Int), .slice AG G.length cG] 44) (.cells #[.int .i64 p, .int .i64 s, .int .i64 it, .bool dn, .slice (some ⟨gA, 0, none⟩) n c, .slice B G.length d, .int .i64 (n : Int), .slice C j k] 39) (.cells #[.int .i64 (n : Int), .slice D q e] 37)) (below_a2 (((w.alloc (.cells #[.int .i64 (n : Int), .slice AG G.length cG] 44)).alloc (.cells #[.int .i64 p, .int .i64 s, .int .i64 it, .bool dn, .slice (some ⟨gA, 0, none⟩) n c, .slice B G.length d, .int .i64 (n : Int), .slice C j k] 39)).alloc (.cells #[.int .i64 (n : Int), .slice D q e] 37)) (.cells #[.int .i64 0, .int .i64 0, .int .i64 0, .bool false, .slice none 0 0, .slice none 0 0, .int .i64 0, .slice none 0 0] 39) (.cells #[.int .i64 0, .slice none 0 0] 37)))
  have BG : Hid (Blk (((((w.alloc (.cells #[.int .i64 (n : Int), .slice AG G.length cG] 44)).alloc (.cells #[.int .i64 p, .int .i64 s, .int .i64 it, .bool dn, .slice (some ⟨gA, 0, none⟩) n c, .slice B G.length d, .int .i64 (n : Int), .slice C j k] 39)).alloc (.cells #[.int .i64 (n : Int), .slice D q e] 37)).alloc (.cells #[.int .i64 0, .int .i64 0, .int .i64 0, .bool false, .slice none 0 0, .slice none 0 0, .int .i64 0, .slice none 0 0] 39)).alloc (.cells #[.int .i64 0, .slice none 0 0] 37)) (w.heap.size) #[.int .i64 (n : Int), .slice AG G.length cG] 44) := Lib.hid (by have h := ((((Blk.new w #[.int .i64 (n : Int), .slice AG G.length cG] 44).alloc (.cells #[.int .i64 p, .int .i64 s, .int .i64 it, .bool dn, .slice (some ⟨gA, 0, none⟩) n c, .slice B G.length d, .int .i64 (n : Int), .slice C j k] 39)).alloc (.cells #[.int .i64 (n : Int), .slice D q e] 37)).alloc (.cells #[.int .i64 0, .int .i64 0, .int .i64 0, .bool false, .slice none 0 0, .slice none 0 0, .int .i64 0, .slice none 0 0] 39)).alloc (.cells #[.int .i64 0, .slice none 0 0] 37); simpa [Nat.add_assoc] using h)
  have BR : Hid (Blk (((((w.alloc (.cells #[.int .i64 (n : Int), .slice AG G.length cG] 44)).alloc (.cells #[.int .i64 p, .int .i64 s, .int .i64 it, .bool dn, .slice (some ⟨gA, 0, none⟩) n c, .slice B G.length d, .int .i64 (n : Int), .slice C j k] 39)).alloc (.cells #[.int .i64 (n : Int), .slice D q e] 37)).alloc (.cells #[.int .i64 0, .int .i64 0, .int .i64 0, .bool false, .slice none 0 0, .slice none 0 0, .int .i64 0, .slice none 0 0] 39)).alloc (.cells #[.int .i64 0, .slice none 0 0] 37)) (w.heap.size + 1) #[.int .i64 p, .int .i64 s, .int .i64 it, .bool dn, .slice (some ⟨gA, 0, none⟩) n c, .slice B G.length d, .int .i64 (n : Int), .slice C j k] 39) := Lib.hid (by have h := (((Blk.new (w.alloc (.cells #[.int .i64 (n : Int), .slice AG G.length cG] 44)) #[.int .i64 p, .int .i64 s, .int .i64 it, .bool dn, .slice (some ⟨gA, 0, none⟩) n c, .slice B G.length d, .int .i64 (n : Int), .slice C j k] 39).alloc (.cells #[.int .i64 (n : Int), .slice D q e] 37)).alloc (.cells #[.int .i64 0, .int .i64 0, .int .i64 0, .bool false, .slice none 0 0, .slice none 0 0, .int .i64 0, .slice none 0 0] 39)).alloc (.cells #[.int .i64 0, .slice none 0 0] 37); simpa [Nat.add_assoc] using h)
  have BN : Hid (Blk (((((w.alloc (.cells #[.int .i64 (n : Int), .slice AG G.length cG] 44)).alloc (.cells #[.int .i64 p, .int .i64 s, .int .i64 it, .bool dn, .slice (some ⟨gA, 0, none⟩) n c, .slice B G.length d, .int .i64 (n : Int), .slice C j k] 39)).alloc (.cells #[.int .i64 (n : Int), .slice D q e] 37)).alloc (.cells #[.int .i64 0, .int .i64 0, .int .i64 0, .bool false, .slice none 0 0, .slice none 0 0, .int .i64 0, .slice none 0 0] 39)).alloc (.cells #[.int .i64 0, .slice none 0 0] 37)) (w.heap.size + 2) #[.int .i64 (n : Int), .slice D q e] 37) := Lib.hid (by have h := ((Blk.new ((w.alloc (.cells #[.int .i64 (n : Int), .slice AG G.length cG] 44)).alloc (.cells #[.int .i64 p, .int .i64 s, .int .i64 it, .bool dn, .slice (some ⟨gA, 0, none⟩) n c, .slice B G.length d, .int .i64 (n : Int), .slice C j k] 39)) #[.int .i64 (n : Int), .slice D q e] 37).alloc (.cells #[.int .i64 0, .int .i64 0, .int .i64 0, .bool false, .slice none 0 0, .slice none 0 0, .int .i64 0, .slice none 0 0] 39)).alloc (.cells #[.int .i64 0, .slice none 0 0] 37); simpa [Nat.add_assoc] using h)
  have BZ : Hid (Blk (((((w.alloc (.cells #[.int .i64 (n : Int), .slice AG G.length cG] 44)).alloc (.cells #[.int .i64 p, .int .i64 s, .int .i64 it, .bool dn, .slice (some ⟨gA, 0, none⟩) n c, .slice B G.length d, .int .i64 (n : Int), .slice C j k] 39)).alloc (.cells #[.int .i64 (n : Int), .slice D q e] 37)).alloc (.cells #[.int .i64 0, .int .i64 0, .int .i64 0, .bool false, .slice none 0 0, .slice none 0 0, .int .i64 0, .slice none 0 0] 39)).alloc (.cells #[.int .i64 0, .slice none 0 0] 37)) (w.heap.size + 3) #[.int .i64 0, .int .i64 0, .int .i64 0, .bool false, .slice none 0 0, .slice none 0 0, .int .i64 0, .slice none 0 0] 39) := Lib.hid (by have h := (Blk.new (((w.alloc (.cells #[.int .i64 (n : Int), .slice AG G.length cG] 44)).alloc (.cells #[.int .i64 p, .int .i64 s, .int .i64 it, .bool dn, .slice (some ⟨gA, 0, none⟩) n c, .slice B G.length d, .int .i64 (n : Int), .slice C j k] 39)).alloc (.cells #[.int .i64 (n : Int), .slice D q e] 37)) #[.int .i64 0, .int .i64 0, .int .i64 0, .bool false, .slice none 0 0, .slice none 0 0, .int .i64 0, .slice none 0 0] 39).alloc (.cells #[.int .i64 0, .slice none 0 0] 37); simpa [Nat.add_assoc] using h)
  have BY : Hid (Blk (((((w.alloc (.cells #[.int .i64 (n : Int), .slice AG G.length cG] 44)).alloc (.cells #[.int .i64 p, .int .i64 s, .int .i64 it, .bool dn, .slice (some ⟨gA, 0, none⟩) n c, .slice B G.length d, .int .i64 (n : Int), .slice C j k] 39)).alloc (.cells #[.int .i64 (n : Int), .slice D q e] 37)).alloc (.cells #[.int .i64 0, .int .i64 0, .int .i64 0, .bool false, .slice none 0 0, .slice none 0 0, .int .i64 0, .slice none 0 0] 39)).alloc (.cells #[.int .i64 0, .slice none 0 0] 37)) (w.heap.size + 4) #[.int .i64 0, .slice none 0 0] 37) := Lib.hid (by have h := Blk.new ((((w.alloc (.cells #[.int .i64 (n : Int), .slice AG G.length cG] 44)).alloc (.cells #[.int .i64 p, .int .i64 s, .int .i64 it, .bool dn, .slice (some ⟨gA, 0, none⟩) n c, .slice B G.length d, .int .i64 (n : Int), .slice C j k] 39)).alloc (.cells #[.int .i64 (n : Int), .slice D q e] 37)).alloc (.cells #[.int .i64 0, .int .i64 0, .int .i64 0, .bool false, .slice none 0 0, .slice none 0 0, .int .i64 0, .slice none 0 0] 39)) #[.int .i64 0, .slice none 0 0] 37; simpa [Nat.add_assoc] using h)
  have S0 : Hid (USt w0 (((((w.alloc (.cells #[.int .i64 (n : Int), .slice AG G.length cG] 44)).alloc (.cells #[.int .i64 p, .int .i64 s, .int .i64 it, .bool dn, .slice (some ⟨gA, 0, none⟩) n c, .slice B G.length d, .int .i64 (n : Int), .slice C j k] 39)).alloc (.cells #[.int .i64 (n : Int), .slice D q e] 37)).alloc (.cells #[.int .i64 0, .int .i64 0, .int .i64 0, .bool false, .slice none 0 0, .slice none 0 0, .int .i64 0, .slice none 0 0] 39)).alloc (.cells #[.int .i64 0, .slice none 0 0] 37)) (w.heap.size + 1) p s it dn (some ⟨gA, 0, none⟩) n c B G.length d (n : Int) C j k D q e vs ev nx nw) := Lib.hid ⟨⟨BR.out, own_below hr3.v HB5.out, own_below hr3.e HB5.out, own_below hr3.x HB5.out, hr3.ap, by omega⟩, own_below hrd HB5.out, hap, g_chain hbl HB5.out⟩
  have HS0 := Lib.hid hwl
  have O0 := Lib.hid ((OnlyB.refl (abBlk (some ⟨gA, 0, none⟩) n c B G.length d) w).below HB5.out)
  clear hr3 hrd hap hbl hwl BR HB5
  go_enter Tryz.func25, Tryz.ntmps25
  go_wp2_with fail
  refine (CV.out _ S0.out).mono ?_
  rintro r w1 ⟨A1, c1, A2, c2, rfl, hov, hoi, hb⟩
  have S1 := Lib.hid (S0.out.below hb)
  have O1 := Lib.hid (O0.out.below hb)
  have BG1 := Lib.hid (BG.out.below hb)
  have BN1 := Lib.hid (BN.out.below hb)
  have BZ1 := Lib.hid (BZ.out.below hb)
  have BY1 := Lib.hid (BY.out.below hb)
  have HZ1 : Hid (w.heap.size + 5 ≤ w1.heap.size) := Lib.hid (by have := hb.size; simpa using this)
  have OV1 := Lib.hid (own_monoG (lo' := w.heap.size) hov (by simp; omega))
  have OI1 := Lib.hid (own_monoG (lo' := w.heap.size) hoi (by simp; omega))
  clear hb hov hoi S0 O0 BG BN BZ BY CV

  have r0 := S1.out.r.bx.cell (i := 0) rfl
  have r1 := S1.out.r.bx.cell (i := 1) rfl
  have r4 := S1.out.r.bx.cell (i := 4) rfl
  have rl := S1.out.r.bx.lt
  have xv : w1.cell? ⟨gA, v, none⟩ = some (.int .i64 x) := S1.out.r.v.cellAt v (by omega) |>.trans (by rw [vi_get, HX.out]; rfl)
  have HLV := Lib.hid (SlV.of_own OV1.out (by unfold viewsT; rw [List.length_map]))
  have HLVd := Lib.hid (HLV.out.below (Below.refl _ w1).drew)
  go_upto_region 2 with fail
  go_region_law (go_simp; go_at_call 53; with_reducible refine (CU.out _ _ _ (by first | exact HLV.out | exact HLVd.out)).mono ?_; rintro r w2 ⟨A3, c3, rfl, hoy, hb⟩)
  all_goals
    have HB2 : Hid (Below w1.heap.size w1 w2) := Lib.hid (by first | exact hb | exact g_chain (Below.refl _ w1).drew hb)
    have HZ2 := Lib.hid HB2.out.size
    have S2 := Lib.hid (S1.out.below HB2.out)
    have O2 := Lib.hid (O1.out.below HB2.out)
    have AX2 : Hid (MAux w.heap.size w2 #[.int .i64 (n : Int), .slice AG G.length cG] #[.int .i64 0, .int .i64 0, .int .i64 0, .bool false, .slice none 0 0, .slice none 0 0, .int .i64 0, .slice none 0 0] #[.int .i64 0, .slice none 0 0] 44 (n : Int) D q e A1 c1 A2 c2 A3 c3 (viewsT G ev (v : Int) G.length) (idxT G (v : Int) G.length) ys) := Lib.hid ⟨⟨BG1.out.below HB2.out, BZ1.out.below HB2.out, Nat.le_refl _, by omega, own_below OV1.out HB2.out, own_below OI1.out HB2.out, own_monoG hoy (by have h1 := HZ1.out; first | (show w.heap.size ≤ w1.heap.size; omega) | omega)⟩, BY1.out.below HB2.out, BN1.out.below HB2.out⟩
    clear hb hoy HLV HLVd r0 r1 r4 rl xv S1 BG1 BN1 BZ1 BY1 OV1 OI1 HB2 CU
    have fz := S2.out.r.v.frozenAt v
    have xv : w2.cell? ⟨gA, v, none⟩ = some (.int .i64 x) := (S2.out.r.v.cellAt v (by omega)).trans (by rw [vi_get, HX.out]; rfl)
    have xl := (S2.out.r.v.lt gA rfl).2
    have r4 := S2.out.r.bx.cell (i := 4) rfl
    have rl := S2.out.r.bx.lt
    have S3 := Lib.hid (S2.out.gotV v nv)
    have AX3 := Lib.hid (AX2.out.grown (S2.out.r.v.stored v (.int .i64 nv)).2 (fun g hg => OA.out g hg))
    have O3 := Lib.hid (O2.out.grown (S2.out.r.v.stored v (.int .i64 nv)).2 (fun i hi => .inl hi))
    clear S2 AX2 O1 O2
    go_wp2
    go_loopw [44] (fun i wr => ∃ (r : Nat) (C1 : Option Addr) (j1 k1 : Nat) (D1 : Option Addr) (q1 e1 : Nat), r ≤ (idxT G (v : Int) G.length).length ∧ i = .int .i64 (r : Int) ∧ Hid (USt w0 wr (w.heap.size + 1) p s it dn (some ⟨gA, 0, none⟩) n c B G.length d (n : Int) C1 j1 k1 D1 q1 e1 (atK (n : Int) G v (edgeNew p G ⟨vs, ev, nx, nw⟩ v) ⟨vs.set v nv, ev, nx, nw⟩ G.length r).vs (atK (n : Int) G v (edgeNew p G ⟨vs, ev, nx, nw⟩ v) ⟨vs.set v nv, ev, nx, nw⟩ G.length r).ev (atK (n : Int) G v (edgeNew p G ⟨vs, ev, nx, nw⟩ v) ⟨vs.set v nv, ev, nx, nw⟩ G.length r).nx (atK (n : Int) G v (edgeNew p G ⟨vs, ev, nx, nw⟩ v) ⟨vs.set v nv, ev, nx, nw⟩ G.length r).nw) ∧ Hid (MAux w.heap.size wr #[.int .i64 (n : Int), .slice AG G.length cG] #[.int .i64 0, .int .i64 0, .int .i64 0, .bool false, .slice none 0 0, .slice none 0 0, .int .i64 0, .slice none 0 0] #[.int .i64 0, .slice none 0 0] 44 (n : Int) D1 q1 e1 A1 c1 A2 c2 A3 c3 (viewsT G ev (v : Int) G.length) (idxT G (v : Int) G.length) ys) ∧ Hid (OnlyB (abBlk (some ⟨gA, 0, none⟩) n c B G.length d) w wr)) (fun i _ => (idxT G (v : Int) G.length).length - (intOf i).toNat)
    case atStart => exact ⟨0, C, j, k, D, q, e, Nat.zero_le _, rfl, by rw [HT0.out]; exact S3, AX3, O3⟩
    case round =>
      clear S3 AX3 O3 fz xv xl r4 rl HT0
      obtain ⟨r, C1, j1, k1, D1, q1, e1, hr, rfl, hst, hax, hon⟩ := hrel
      have HS4 := Lib.hid (HTK.out r)
      obtain ⟨T, HT⟩ : ∃ T, Hid (atK (n : Int) G v (edgeNew p G ⟨vs, ev, nx, nw⟩ v) ⟨vs.set v nv, ev, nx, nw⟩ G.length r = T) := ⟨_, Lib.hid rfl⟩
      obtain ⟨cvs, cev, cnx, cnw⟩ := T
      rw [HT.out] at hst HS4
      simp only at hst
      by_cases hlt : r < (idxT G (v : Int) G.length).length
      · obtain ⟨i, hri⟩ : ∃ i, (idxT G (v : Int) G.length)[r]? = some i := ⟨_, List.getElem?_eq_getElem hlt⟩
        have hilt := HIM.out i (List.mem_of_getElem? hri)
        obtain ⟨xi, hxi⟩ : ∃ xi, ev[i]? = some xi := ⟨_, List.getElem?_eq_getElem (by omega)⟩
        have HSTP := Lib.hid (HST'.out r i hri)
        have HCE : Hid (cev.getD i 0 = xi) := Lib.hid (by
          have h1 := HS4.out.ev i
          rw [if_neg (not_before HID.out hri)] at h1
          simp only at h1
          rw [h1, List.getD_eq_getElem?_getD, hxi]
          rfl)
        have hyr := HYS.out r i hri
        rw [HT.out] at HSTP
        unfold estep at HSTP
        simp only [HCE.out] at HSTP
        obtain ⟨y, hy⟩ : ∃ y, y = edgeNew p G ⟨vs, ev, nx, nw⟩ v i := ⟨_, rfl⟩
        rw [← hy] at hyr HSTP
        obtain ⟨g2, rfl⟩ := g_own_at hax.out.u.oi (by omega)
        obtain ⟨g3, rfl⟩ := g_own_at hax.out.u.oy (by omega)
        have a2 : wr.cell? ⟨g2, r, none⟩ = some (.int .i64 (i : Int)) := (hax.out.u.oi.cellAt r (by omega)).trans (by rw [vi_get, zI_get hri]; rfl)
        have a3 : wr.cell? ⟨g3, r, none⟩ = some (.int .i64 y) := (hax.out.u.oy.cellAt r (by omega)).trans (by rw [vi_get, hyr]; rfl)
        obtain ⟨g1, o1, vw, rfl, hg1, hvw, b0, b1', b2, b3⟩ := (SlV.of_own hax.out.u.ov (by unfold viewsT; rw [List.length_map])).at_ hlt
        have hvv : vw.v = xi := by
          have h1 := hvw.out
          rw [HVW.out, hri] at h1
          have h2 : viewAt G ev (v : Int) i = vw := by simpa using h1
          rw [← h2]
          unfold viewAt viewE
          simp only
          rw [List.getD_eq_getElem?_getD, hxi]
          rfl
        rw [hvv] at b3
        have HE := Lib.hid hxi
        have HYR := Lib.hid hyr
        have HSN := Lib.hid HS4.out.nw
        have HSX := Lib.hid HS4.out.nx
        have HSW := Lib.hid (HS4.out.nws HGD.out.nws)
        have HSY := Lib.hid (HS4.out.nxs HGD.out.nxs)
        simp only at HSN HSX HSW HSY
        clear hy hyr hvw b0 b1' b2 hxi hvv HS4 HT
        have hcl0 := hst.out.r.nl.2.1
        obtain ⟨gB, rfl⟩ := g_own_at hst.out.r.e (by omega)
        have hci0 : cev[i]? = some xi := by
          have h1 := HCE.out
          rw [List.getD_eq_getElem?_getD, List.getElem?_eq_getElem (by omega)] at h1
          rw [List.getElem?_eq_getElem (by omega), ← h1]
          rfl
        have xe0 : wr.cell? ⟨gB, i, none⟩ = some (.int .i64 xi) := (hst.out.r.e.cellAt i (by omega)).trans (by rw [vi_get, hci0]; rfl)
        have r50 := hst.out.r.bx.cell (i := 5) rfl
        have rl0 := hst.out.r.bx.lt
        clear b3
        by_cases hyx : y = xi
        · have hd : (y != xi) = false := by simp [hyx]
          rw [if_pos hyx] at HSTP
          have S5 := Lib.hid hst.out
          have AX5 := Lib.hid hax.out
          clear hst hax hyx
          go_wp2
          go_quiet (fail)
          go_wp2
          go_roundw
          case rel => exact ⟨r + 1, C1, j1, k1, D1, q1, e1, by omega, by go_num, by rw [HSTP.out]; first | exact S5 | exact Lib.hid (S5.out.drewN _), by first | exact AX5 | exact Lib.hid (AX5.out.drewN _), by first | exact hon | exact Lib.hid (hon.out.below (below_drewN (Below.refl _ _) _))⟩
          case measure => simp [intOf]; omega
        · have hd : (y != xi) = true := by simp [hyx]
          rw [if_neg hyx] at HSTP
          have S5 := Lib.hid hst.out
          have AX5 := Lib.hid hax.out
          clear hst hax hyx
          go_wp2
          go_quiet (fail)
          go_upto_region 8 with fail
          have S6 := Lib.hid (S5.out.drewN nq)
          have AX6 := Lib.hid (AX5.out.drewN nq)
          have O6 := Lib.hid (hon.out.below (below_drewN (Below.refl _ wr) nq))
          clear S5 AX5 a2 a3 hci0 xe0 r50 rl0 hcl0
          generalize hWW : World.drewN wr nq = W8 at S6 AX6 O6 ⊢
          clear hWW
          have hcl := S6.out.r.nl.2.1
          have hci : cev[i]? = some xi := by
            have h1 := HCE.out
            rw [List.getD_eq_getElem?_getD, List.getElem?_eq_getElem (by omega)] at h1
            rw [List.getElem?_eq_getElem (by omega), ← h1]
            rfl
          have r5 := S6.out.r.bx.cell (i := 5) rfl
          have rl := S6.out.r.bx.lt
          have xe : W8.cell? ⟨gB, i, none⟩ = some (.int .i64 xi) := (S6.out.r.e.cellAt i (by omega)).trans (by rw [vi_get, hci]; rfl)
          have fe := S6.out.r.e.frozenAt i
          have el := (S6.out.r.e.lt gB rfl).2
          have a3 : W8.cell? ⟨g3, r, none⟩ = some (.int .i64 y) := (AX6.out.u.oy.cellAt r (by omega)).trans (by rw [vi_get, HYR.out]; rfl)
          go_region
          have S7 := Lib.hid ((S6.out.gotE i y).below (Below.refl _ _).drew)
          have AX7 := Lib.hid ((AX6.out.grown (S6.out.r.e.stored i (.int .i64 y)).2 (fun g hg => OB.out g hg)).below (Below.refl _ _).drew)
          have O7 := Lib.hid ((O6.out.grown (S6.out.r.e.stored i (.int .i64 y)).2 (fun z hz => .inr hz)).below (Below.refl _ _).drew)
          clear S6 AX6 O6 hon r5 rl xe fe el a3 hci
          generalize hWW : World.drew (W8.setCell ⟨gB, i, none⟩ (.int .i64 y)) = W9 at S7 AX7 O7 ⊢
          clear hWW
          obtain ⟨gb, go, eg, rfl, hgbw, heg, z0, z1, z2⟩ := HSG.out.at_ hilt
          have hee : edgeAt G i = eg := by unfold edgeAt; rw [List.getD_eq_getElem?_getD, heg.out]; rfl
          have hoi := other_in HGG.out hilt (v : Int)
          rw [hee] at hoi HSTP
          obtain ⟨un, hun⟩ : ∃ un : Nat, otherE eg (v : Int) = (un : Int) := ⟨(otherE eg (v : Int)).toNat, by omega⟩
          have CO := Lib.hid (fun W => specOther eg (v : Int) W)
          rw [hun] at hoi HSTP CO
          unfold GNum at CO
          have hu8 : un / 8 < bytesN n := lt_bytes (by omega)
          have y0 := (S7.out.h.cell (p := ⟨gb, go + i * 3, none⟩) hgbw).trans z0
          have y1 := (S7.out.h.cell (p := ⟨gb, go + i * 3 + 1, none⟩) hgbw).trans z1
          have y2 := (S7.out.h.cell (p := ⟨gb, go + i * 3 + 2, none⟩) hgbw).trans z2
          have m1 := AX7.out.u.bg.cell (i := 1) rfl
          have ml := AX7.out.u.bg.lt
          have hbw : gb < W9.heap.size := Nat.lt_of_lt_of_le hgbw S7.out.h.size
          have hql1 : cnw.length = q1 := by have h9 := S7.out.d.1; rw [vb_length] at h9; omega
          have hjl1 : cnx.length = j1 := S7.out.r.nl.2.2
          have hdw := (setB_dim HSN.out).2.2
          have hdx := (setB_dim HSX.out).2.2
          simp only [Int.toNat_natCast] at hdw hdx
          unfold bytesN at hdw hdx
          clear z0 z1 z2 heg hee
          by_cases hvu : v < un
          · rw [if_pos (by omega)] at HSTP
            have hvz : (v : Int) < (un : Int) := by omega
            have CK := Lib.hid (fun W (h : USt w0 W (w.heap.size + 1) p s it dn (some ⟨gA, 0, none⟩) n c (some ⟨gB, 0, none⟩) G.length d (n : Int) C1 j1 k1 D1 q1 e1 cvs (cev.set i y) cnx cnw) => specWith (n : Int) (un : Int) D1 q1 e1 cnw W (Rd.of_own h.d HSW.out) (by omega) (WalkArith.wf_i64 (by omega)))
            unfold MadeS at CK
            rw [with_is HSN.out (by omega), Int.toNat_natCast] at CK HSTP
            rw [show withN (n : Int) cnw = (n : Int) by unfold withN; rw [if_pos HSN.out]] at CK
            clear hvu
            go_wp2_with fail
            refine (CO.out _).mono ?_
            rintro r9 wa ⟨rfl, hba⟩
            have SA := Lib.hid (S7.out.below hba)
            have AXA := Lib.hid (AX7.out.below hba)
            have OQ := Lib.hid (O7.out.below hba)
            clear hba m1 ml S7 AX7 O7 y0 y1 y2 hbw
            have n0 := AXA.out.n.cell (i := 0) rfl
            have n1 := AXA.out.n.cell (i := 1) rfl
            have nl := AXA.out.n.lt
            have OT := Lib.hid SA.out.r.x.lt
            go_wp2_with fail
            refine (CK.out _ SA.out).mono ?_
            rintro r10 wb ⟨E1, ce, rfl, ho, hbb⟩
            have HAP := Lib.hid (own_time OT.out ho (Nat.le_refl _))
            have HO := Lib.hid (own_monoG (lo' := w0.heap.size) ho SA.out.h.size)
            have SB := Lib.hid (SA.out.below hbb)
            have AXB := Lib.hid (AXA.out.below hbb)
            have OR := Lib.hid (OQ.out.below hbb)
            clear ho hbb SA AXA OQ n0 n1 nl
            have SC := Lib.hid (SB.out.setNow (N := (n : Int)) AXB.out.n (by have := HS0.out; omega) (by omega) HO.out HAP.out)
            have AXC := Lib.hid (AXB.out.setNow (D' := E1) (q' := (addV cnw un).length) (e' := ce))
            have OC := Lib.hid (OR.out.grown2 (set2_grown wb (w.heap.size + 2) 0 1 (.int .i64 (n : Int)) (.slice E1 (addV cnw un).length ce)) (fun i hi => .inr (by injection hi with hi; omega)))
            have f2 := fun i => AXB.out.n.frozen i
            have n0 := AXB.out.n.cell (i := 0) rfl
            have n1 := AXB.out.n.cell (i := 1) rfl
            have nl := AXB.out.n.lt
            clear SB AXB OR HO HAP OT
            go_wp2
            go_roundw
            case rel => exact ⟨r + 1, C1, j1, k1, E1, _, ce, by omega, by go_num, by rw [HSTP.out]; exact SC, AXC, OC⟩
            case measure => simp [intOf]; omega
          · rw [if_neg (by omega)] at HSTP
            have hvz : (un : Int) ≤ (v : Int) := by omega
            have hvz2 : ¬ (v : Int) < (un : Int) := by omega
            have CK := Lib.hid (fun W (h : USt w0 W (w.heap.size + 1) p s it dn (some ⟨gA, 0, none⟩) n c (some ⟨gB, 0, none⟩) G.length d (n : Int) C1 j1 k1 D1 q1 e1 cvs (cev.set i y) cnx cnw) => specWith (n : Int) (un : Int) C1 j1 k1 cnx W (Rd.of_own h.r.x HSY.out) (by omega) (WalkArith.wf_i64 (by omega)))
            unfold MadeS at CK
            rw [with_is HSX.out (by omega), Int.toNat_natCast] at CK HSTP
            rw [show withN (n : Int) cnx = (n : Int) by unfold withN; rw [if_pos HSX.out]] at CK
            clear hvu
            go_wp2_with fail
            refine (CO.out _).mono ?_
            rintro r9 wa ⟨rfl, hba⟩
            have SA := Lib.hid (S7.out.below hba)
            have AXA := Lib.hid (AX7.out.below hba)
            have OQ := Lib.hid (O7.out.below hba)
            clear hba m1 ml S7 AX7 O7 y0 y1 y2 hbw
            have n0 := SA.out.r.bx.cell (i := 6) rfl
            have n1 := SA.out.r.bx.cell (i := 7) rfl
            have nl := SA.out.r.bx.lt
            have OT := Lib.hid SA.out.d.lt
            go_wp2_with fail
            refine (CK.out _ SA.out).mono ?_
            rintro r10 wb ⟨E1, ce, rfl, ho, hbb⟩
            have HAP := Lib.hid (own_time OT.out ho (Nat.le_refl _))
            have HO := Lib.hid (own_monoG (lo' := w0.heap.size) ho SA.out.h.size)
            have SB := Lib.hid (SA.out.below hbb)
            have AXB := Lib.hid (AXA.out.below hbb)
            have OR := Lib.hid (OQ.out.below hbb)
            clear ho hbb SA AXA OQ n0 n1 nl
            have SC := Lib.hid (SB.out.setNext HO.out (ap_symm' HAP.out))
            have AXC := Lib.hid (AXB.out.setNext SB.out.r.bx (.int .i64 (n : Int)) (.slice E1 (addV cnx un).length ce))
            have OC := Lib.hid (OR.out.grown2 (set2_grown wb (w.heap.size + 1) 6 7 (.int .i64 (n : Int)) (.slice E1 (addV cnx un).length ce)) (fun i hi => .inr (by injection hi with hi; omega)))
            have f2 := fun i => SB.out.r.bx.frozen i
            have n0 := SB.out.r.bx.cell (i := 6) rfl
            have n1 := SB.out.r.bx.cell (i := 7) rfl
            have nl := SB.out.r.bx.lt
            clear SB AXB OR HO HAP OT
            go_wp2
            go_roundw
            case rel => exact ⟨r + 1, E1, _, ce, D1, q1, e1, by omega, by go_num, by rw [HSTP.out]; exact SC, AXC, OC⟩
            case measure => simp [intOf]; omega
      · obtain rfl : r = (idxT G (v : Int) G.length).length := by omega
        rw [HVS.out, HT.out]
        have SF := Lib.hid hst.out
        have AF := Lib.hid hax.out
        have OF := Lib.hid hon.out
        clear HS4 hst hax hon
        have rr0 := SF.out.r.bx.cell (i := 0) rfl
        have rr1 := SF.out.r.bx.cell (i := 1) rfl
        have rr2 := SF.out.r.bx.cell (i := 2) rfl
        have rr3 := SF.out.r.bx.cell (i := 3) rfl
        have rr4 := SF.out.r.bx.cell (i := 4) rfl
        have rr5 := SF.out.r.bx.cell (i := 5) rfl
        have rr6 := SF.out.r.bx.cell (i := 6) rfl
        have rr7 := SF.out.r.bx.cell (i := 7) rfl
        have rrl := SF.out.r.bx.lt
        have rrf := fun i => SF.out.r.bx.frozen i
        have nn0 := AF.out.n.cell (i := 0) rfl
        have nn1 := AF.out.n.cell (i := 1) rfl
        have nnl := AF.out.n.lt
        have nnf := fun i => AF.out.n.frozen i
        have zz0 := AF.out.u.bn.cell (i := 0) rfl
        have zz1 := AF.out.u.bn.cell (i := 1) rfl
        have zz2 := AF.out.u.bn.cell (i := 2) rfl
        have zz3 := AF.out.u.bn.cell (i := 3) rfl
        have zz4 := AF.out.u.bn.cell (i := 4) rfl
        have zz5 := AF.out.u.bn.cell (i := 5) rfl
        have zz6 := AF.out.u.bn.cell (i := 6) rfl
        have zz7 := AF.out.u.bn.cell (i := 7) rfl
        have zzl := AF.out.u.bn.lt
        have zzf := fun i => AF.out.u.bn.frozen i
        have yy0 := AF.out.z.cell (i := 0) rfl
        have yy1 := AF.out.z.cell (i := 1) rfl
        have yyl := AF.out.z.lt
        have yyf := fun i => AF.out.z.frozen i
        have hwl := HS0.out
        have G1 := Lib.hid (layR_grown wr (w.heap.size + 3) (.int .i64 p) (.int .i64 s) (.int .i64 it) (.bool dn) (.slice (some ⟨gA, 0, none⟩) n c) (.slice B G.length d) (.int .i64 (n : Int)) (.slice C1 j1 k1))
        have S1 := Lib.hid (SF.out.past G1.out AF.out.u.bn (by omega) (by omega) (by decide) (by decide))
        have Z1 := Lib.hid (AF.out.z.grown G1.out (by intro e; injection e with e; omega))
        have G2 := Lib.hid (set2_grown (layR wr (w.heap.size + 3) (.int .i64 p) (.int .i64 s) (.int .i64 it) (.bool dn) (.slice (some ⟨gA, 0, none⟩) n c) (.slice B G.length d) (.int .i64 (n : Int)) (.slice C1 j1 k1)) (w.heap.size + 4) 0 1 (.int .i64 (n : Int)) (.slice D1 q1 e1))
        have S2 : Hid (USt w0 (World.drew ((((((((((wr.setCell ⟨w.heap.size + 1 + 1 + 1, 0, none⟩ (.int .i64 p)).setCell ⟨w.heap.size + 1 + 1 + 1, 1, none⟩ (.int .i64 s)).setCell ⟨w.heap.size + 1 + 1 + 1, 2, none⟩ (.int .i64 it)).setCell ⟨w.heap.size + 1 + 1 + 1, 3, none⟩ (.bool dn)).setCell ⟨w.heap.size + 1 + 1 + 1, 4, none⟩ (.slice (some ⟨gA, 0, none⟩) n c)).setCell ⟨w.heap.size + 1 + 1 + 1, 5, none⟩ (.slice B G.length d)).setCell ⟨w.heap.size + 1 + 1 + 1, 6, none⟩ (.int .i64 (n : Int))).setCell ⟨w.heap.size + 1 + 1 + 1, 7, none⟩ (.slice C1 j1 k1)).setCell ⟨w.heap.size + 1 + 1 + 1 + 1, 0, none⟩ (.int .i64 (n : Int))).setCell ⟨w.heap.size + 1 + 1 + 1 + 1, 1, none⟩ (.slice D1 q1 e1))) (w.heap.size + 1) p s it dn (some ⟨gA, 0, none⟩) n c B G.length d (n : Int) C1 j1 k1 D1 q1 e1 cvs cev cnx cnw) := Lib.hid ((S1.out.past G2.out Z1.out (by omega) (by omega) (by decide) (by decide)).below (Below.refl _ _).drew)
        have ZB : Hid (Blk (World.drew ((((((((((wr.setCell ⟨w.heap.size + 1 + 1 + 1, 0, none⟩ (.int .i64 p)).setCell ⟨w.heap.size + 1 + 1 + 1, 1, none⟩ (.int .i64 s)).setCell ⟨w.heap.size + 1 + 1 + 1, 2, none⟩ (.int .i64 it)).setCell ⟨w.heap.size + 1 + 1 + 1, 3, none⟩ (.bool dn)).setCell ⟨w.heap.size + 1 + 1 + 1, 4, none⟩ (.slice (some ⟨gA, 0, none⟩) n c)).setCell ⟨w.heap.size + 1 + 1 + 1, 5, none⟩ (.slice B G.length d)).setCell ⟨w.heap.size + 1 + 1 + 1, 6, none⟩ (.int .i64 (n : Int))).setCell ⟨w.heap.size + 1 + 1 + 1, 7, none⟩ (.slice C1 j1 k1)).setCell ⟨w.heap.size + 1 + 1 + 1 + 1, 0, none⟩ (.int .i64 (n : Int))).setCell ⟨w.heap.size + 1 + 1 + 1 + 1, 1, none⟩ (.slice D1 q1 e1))) (w.heap.size + 1 + 1 + 1) #[.int .i64 p, .int .i64 s, .int .i64 it, .bool dn, .slice (some ⟨gA, 0, none⟩) n c, .slice B G.length d, .int .i64 (n : Int), .slice C1 j1 k1] 39) := Lib.hid (((layR_blk AF.out.u.bn).grown G2.out (by intro e; injection e with e; omega)).below (Below.refl _ _).drew)
        have YB : Hid (Blk (World.drew ((((((((((wr.setCell ⟨w.heap.size + 1 + 1 + 1, 0, none⟩ (.int .i64 p)).setCell ⟨w.heap.size + 1 + 1 + 1, 1, none⟩ (.int .i64 s)).setCell ⟨w.heap.size + 1 + 1 + 1, 2, none⟩ (.int .i64 it)).setCell ⟨w.heap.size + 1 + 1 + 1, 3, none⟩ (.bool dn)).setCell ⟨w.heap.size + 1 + 1 + 1, 4, none⟩ (.slice (some ⟨gA, 0, none⟩) n c)).setCell ⟨w.heap.size + 1 + 1 + 1, 5, none⟩ (.slice B G.length d)).setCell ⟨w.heap.size + 1 + 1 + 1, 6, none⟩ (.int .i64 (n : Int))).setCell ⟨w.heap.size + 1 + 1 + 1, 7, none⟩ (.slice C1 j1 k1)).setCell ⟨w.heap.size + 1 + 1 + 1 + 1, 0, none⟩ (.int .i64 (n : Int))).setCell ⟨w.heap.size + 1 + 1 + 1 + 1, 1, none⟩ (.slice D1 q1 e1))) (w.heap.size + 1 + 1 + 1 + 1) #[.int .i64 (n : Int), .slice D1 q1 e1] 37) := Lib.hid ((Blk.set (Blk.set Z1.out 0 (.int .i64 (n : Int))) 1 (.slice D1 q1 e1)).below (Below.refl _ _).drew)
        have O2' : Hid (OnlyB (abBlk (some ⟨gA, 0, none⟩) n c B G.length d) w (World.drew ((((((((((wr.setCell ⟨w.heap.size + 1 + 1 + 1, 0, none⟩ (.int .i64 p)).setCell ⟨w.heap.size + 1 + 1 + 1, 1, none⟩ (.int .i64 s)).setCell ⟨w.heap.size + 1 + 1 + 1, 2, none⟩ (.int .i64 it)).setCell ⟨w.heap.size + 1 + 1 + 1, 3, none⟩ (.bool dn)).setCell ⟨w.heap.size + 1 + 1 + 1, 4, none⟩ (.slice (some ⟨gA, 0, none⟩) n c)).setCell ⟨w.heap.size + 1 + 1 + 1, 5, none⟩ (.slice B G.length d)).setCell ⟨w.heap.size + 1 + 1 + 1, 6, none⟩ (.int .i64 (n : Int))).setCell ⟨w.heap.size + 1 + 1 + 1, 7, none⟩ (.slice C1 j1 k1)).setCell ⟨w.heap.size + 1 + 1 + 1 + 1, 0, none⟩ (.int .i64 (n : Int))).setCell ⟨w.heap.size + 1 + 1 + 1 + 1, 1, none⟩ (.slice D1 q1 e1)))) := Lib.hid (((OF.out.grown2 G1.out (fun i hi => .inr (by injection hi with hi; omega))).grown2 G2.out (fun i hi => .inr (by injection hi with hi; omega))).below (Below.refl _ _).drew)
        clear G1 G2 S1 Z1 SF AF OF
        go_wp2
        go_region
        go_wp2
        generalize hWF : (World.drew ((((((((((wr.setCell ⟨w.heap.size + 1 + 1 + 1, 0, none⟩ (.int .i64 p)).setCell ⟨w.heap.size + 1 + 1 + 1, 1, none⟩ (.int .i64 s)).setCell ⟨w.heap.size + 1 + 1 + 1, 2, none⟩ (.int .i64 it)).setCell ⟨w.heap.size + 1 + 1 + 1, 3, none⟩ (.bool dn)).setCell ⟨w.heap.size + 1 + 1 + 1, 4, none⟩ (.slice (some ⟨gA, 0, none⟩) n c)).setCell ⟨w.heap.size + 1 + 1 + 1, 5, none⟩ (.slice B G.length d)).setCell ⟨w.heap.size + 1 + 1 + 1, 6, none⟩ (.int .i64 (n : Int))).setCell ⟨w.heap.size + 1 + 1 + 1, 7, none⟩ (.slice C1 j1 k1)).setCell ⟨w.heap.size + 1 + 1 + 1 + 1, 0, none⟩ (.int .i64 (n : Int))).setCell ⟨w.heap.size + 1 + 1 + 1 + 1, 1, none⟩ (.slice D1 q1 e1))) = WF at S2 ZB YB O2' ⊢
        obtain ⟨-, z0, z1, z2, z3, z4, z5, z6, z7⟩ := ZB.out.eight
        have y0 := YB.out.cell (i := 0) rfl
        have y1 := YB.out.cell (i := 1) rfl
        refine bodyPost_ret (v := .tuple #[.agg #[.int .i64 p, .int .i64 s, .int .i64 it, .bool dn, .slice (some ⟨gA, 0, none⟩) n c, .slice B G.length d, .int .i64 (n : Int), .slice C1 j1 k1], .agg #[.int .i64 (n : Int), .slice D1 q1 e1]]) (by simp [results, Tryz.results25, go_sem, z0, z1, z2, z3, z4, z5, z6, z7, y0, y1]) rfl ?_
        rw [HVS.out, HT.out]
        exact ⟨C1, j1, k1, D1, q1, e1, rfl, S2.out.r.rows, S2.out.d, S2.out.ap, S2.out.h, O2'.out⟩
end Go.Proofs.YtpgnappddddlpaaGreatDoor
