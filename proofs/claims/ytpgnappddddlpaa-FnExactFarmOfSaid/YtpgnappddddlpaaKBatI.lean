/- The contract of the program's Batches: slices.Chunk's pieces, each sorted. Condition: at most 2^20 records. -/
import Derived.Test.YtpgnappddddlpaaKChunk
import Derived.Test.YtpgnappddddlpaaCOJ
import Derived.Test.YtpgnappddddlpaaCOP
import Derived.Maps.AppendAt
namespace Go.Proofs.Ytpgnappddddlpaa
open Go.RowKit Go.Shelf
attribute [local go_sem] Oper.semAt_some

theorem own_ne {w : World} {lo e size n : Nat} {v : Value} {xs : List Value} {row : Option Nat} (h : w.ownsRow lo e size v n xs) (hr : ∀ r, row = some r → ∃ o : Obj, w.heap[r]? = some o ∧ o.isCells = false) : v.ownBlock = none ∨ v.ownBlock ≠ row := by
  rcases h.2 with ⟨rfl, _⟩ | ⟨g, cap, cur, rfl, _, hg, _⟩
  · exact .inl rfl
  · refine .inr (fun e => ?_)
    obtain ⟨o, ho, hc⟩ := hr g e.symm
    rw [hg] at ho
    cases ho
    cases hc
theorem OwnT.quiet {w w' : World} {lo n c : Nat} {A : Option Addr} {bs : List BE} {row : Option Nat} (h : OwnT w lo A n c bs) (hg : w.grownBy w' row) (hr : ∀ r, row = some r → ∃ o : Obj, w.heap[r]? = some o ∧ o.isCells = false) : OwnT w' lo A n c bs :=
  ⟨h.row.kept hg (own_ne h.row hr), h.len, h.dat.kept hg (fun d hd => own_ne (h.dat.own d hd) hr)⟩
theorem box_quiet {W W' : World} {row : Option Nat} {B : Nat} {t : TypeId} {v : Value} (h : Boxed W B t v) (hg : W.grownBy W' row) (hr : ∀ r, row = some r → ∃ o : Obj, W.heap[r]? = some o ∧ o.isCells = false) : Boxed W' B t v :=
  h.kept hg (fun e => by
    obtain ⟨o, ho, hc⟩ := hr B e.symm
    rw [show W.heap[B]? = _ from h] at ho
    cases ho
    cases hc)

theorem kpC_b {wa w0 : World} (W : World) (l : Nat) (o o' : Obj) (hl : w0.heap.size ≤ l) (_ : W.heap[l]? = some o) (_ : o.isCells = false) (_ : o.isWalk = false) : KpC wa w0 W (W.putObj l o') :=
  OnlyB.grown (OnlyB.refl _ _) (grownBy_putObj' W l o') (fun i e => by cases e; exact Or.inr hl)

/-- What stands when some pieces are sorted. -/
def BatInv (w : World) (pre : List (PcIn w)) (W : World) : Prop :=
  (∃ A' c' bs, Boxed W w.heap.size 185 (.slice A' pre.length c') ∧ OwnT W (w.heap.size + 3) A' pre.length c' bs ∧ bs.map BE.es = (piecesOf pre).map sortR ∧ w.heap.size + 3 ≤ W.heap.size) ∧ Below w.heap.size w W

theorem wpIn_append_own {F : Fence} {n : Nat} {P : Program} (w : World) {o : Oper} {a : Act} {K : Act → World → Prop} {Q : Exit → Act → World → Prop}
    (s x : Operand) (t : TypeId) (hop : o.op = Op.call { callee := Callee.builtin Builtin.append, args := #[s, x], argTypes := #[t, t] })
    (base : Nat) (e : TypeId) (i : TypeInfo) (z : Value) (size bytes : Nat) (h1 : P.underlying t = some (.slice e)) (h2 : P.info? e = some i) (h3 : i.zero = some z) (h4 : i.size = size) (h5 : i.bytes = bytes) (h6 : z.cells.size = size) (h7 : 0 < size)
    (v : Value) (k : Nat) (xs : List Value) (hs : a.eval s = v) (hown : w.ownsRow base e size v k xs) (ad : Addr) (m c : Nat) (news : List Value) (hx : a.eval x = .slice (some ad) m c) (hn : news.length = m * size)
    (hc : ∀ j u, news[j]? = some u → w.cell? (ad.add j) = some u) (h1c : ∀ u ∈ news, u.oneCell' = true) (b1 : k + m ≤ maxLen) (b2 : (k + m) * bytes ≤ 140737488355328) (b3 : base ≤ w.heap.size)
    (hK : ∀ v' w', w'.ownsRow base e size v' (k + m) (xs ++ news) → w.grownBy w' v.ownBlock → (v' = .slice none 0 0 ↔ v = .slice none 0 0 ∧ m = 0) → K (a.put o.dst v') w') :
    Oper.wpIn F n P o a w K Q := by
  obtain ⟨v', w', hrun, r1, r2, r3⟩ := run_append_own (P := P) w base t o.type e i z size bytes h1 h2 h3 h4 h5 h6 h7 v k xs hown ad m c news hn hc h1c b1 b2 b3
  unfold Oper.wpIn
  refine ⟨?_, ?_⟩
  · simp [Oper.about, hop, resolve, Target.leads, Sem.run_pure]
  · rw [Oper.semAt_plain F _ _ (by rw [hop]; intro c hc'; cases hc')]
    simp [execOp, hop, resolve, invoke, builtin, hs, hx, hrun, Result.andThen]
    exact hK v' w' r1 r2 r3

set_option maxRecDepth 100000 in
set_option maxHeartbeats 4000000 in
theorem implBatches_in (HSO : ∀ A n c es W, SlG W A n es → n ≤ 2097152 → Calls Try.prog 166 #[.slice A n c] W (RowRc W n (sortR es)))
    (A : Option Addr) (n c : Nat) (es : List GE) (b : Nat) (w : World) (hr : SlG w A n es) (hn : n ≤ 1048576) (hc : n ≤ c) (hb1 : 1 ≤ b) (hb2 : b ≤ 9223372036854775807) :
    CallsIn Fence.wide 3 Try.prog 155 #[.slice A n c, .int .i64 (b : Int)] w (MadeT w (batchesR b es)) := by
  obtain ⟨i0, hi, hz0, hz1, hz2⟩ := info_parts Try.infoBatch
  have HC := Lib.hid hc
  have HR := Lib.hid hr
  clear hr hc
  refine callsIn_of_wp_marks Try.func155 rfl trivial ?_ rfl
  simp only [Try.ntmps155, List.size_toArray, List.length_cons, List.length_nil, Nat.reduceAdd, Nat.reduceSub, Array.replicate_succ, Array.replicate_zero, List.push_toArray, List.append_toArray, List.nil_append, List.cons_append]
  have hlt : ¬ ((b : Int) < 1) := by omega
  gi_wp2
  refine ⟨trivial, (callsIn_wide.2 (chunk_any A n c b _ hb1)).mono ?_⟩
  rintro e w' ⟨rfl, rfl⟩
  gi_wp2
  have bO := ((Boxed.new w 185 (.slice none 0 0)).alloc (.cells #[.slice A n c] 148)).alloc (.cells #[.int .i64 (b : Int)] 3)
  have bS := (Boxed.new (w.alloc (.cells #[.slice none 0 0] 185)) 148 (.slice A n c)).alloc (.cells #[.int .i64 (b : Int)] 3)
  have bN := Boxed.new ((w.alloc (.cells #[.slice none 0 0] 185)).alloc (.cells #[.slice A n c] 148)) 3 (.int .i64 (b : Int))
  rw [World.size_alloc] at bS bN
  rw [World.size_alloc] at bN
  have hB0 : Below w.heap.size w (((w.alloc (.cells #[.slice none 0 0] 185)).alloc (.cells #[.slice A n c] 148)).alloc (.cells #[.int .i64 (b : Int)] 3)) := below_a3 _ _ _ _
  have hsz : (((w.alloc (.cells #[.slice none 0 0] 185)).alloc (.cells #[.slice A n c] 148)).alloc (.cells #[.int .i64 (b : Int)] 3)).heap.size = w.heap.size + 3 := by simp
  generalize (((w.alloc (.cells #[.slice none 0 0] 185)).alloc (.cells #[.slice A n c] 148)).alloc (.cells #[.int .i64 (b : Int)] 3)) = w0 at bO bS bN hB0 hsz ⊢
  have hI : ChIn w w0 (w.heap.size + 1) (w.heap.size + 1 + 1) A n c es b := ⟨HR.out, hn, HC.out, hb1, hb2, by omega, by omega, by omega, by omega, bS.cell, bN.cell⟩
  refine wpIn_rangeFunc_ownG rfl (by omega) (gf := 172) (lb := #[.pointer (some ⟨w.heap.size + 1, 0, none⟩), .pointer (some ⟨w.heap.size + 1 + 1, 0, none⟩)]) rfl trivial (enters_of Try.func172 (by kernel_rfl) rfl)
    (chunk_stops Fence.wide 2 trivial rfl (by omega) _ _ A n c es b w w0 hI) (fun h k => OnlyB.trans h k) kpC_b (Below.refl _ _) (fun _ => rfl)
    (BatInv w) (fun _ _ _ => False)
    (OwnFrom.and (Own.from (fun s A B row hs hg hr => by obtain ⟨A', c', bs, h1, h2, h3, h4⟩ := hs; exact ⟨A', c', bs, box_quiet h1 hg hr, h2.quiet hg hr, h3, Nat.le_trans h4 hg.size⟩) _) (ownFrom_below (Nat.le_refl _) (by omega)))
    (fun _ _ _ _ _ hs _ _ => hs)
    ⟨⟨none, 0, [], bO, ⟨World.ownsRow_nil _ _ _ _, rfl, OwnL.nil⟩, rfl, by omega⟩, hB0⟩
    (fun x => { tmps := #[.slice A n c, .int .i64 (b : Int), undef, undef, .slice none 0 0, .pointer (some ⟨w.heap.size, 0, none⟩), .slice x.1.A x.1.n x.1.c, .int .i64 (b : Int), .bool false, .slice A n c, .int .i64 (b : Int), .func (.func 172) #[] #[.pointer (some ⟨w.heap.size + 1, 0, none⟩), .pointer (some ⟨w.heap.size + 1 + 1, 0, none⟩)], .slice x.1.A x.1.n x.1.c, undef, undef, undef, undef, undef, undef, undef], defers := [] }) ?assign ?body ?done ?stop
  case assign =>
    intro l x W K hK
    gi_wp2
    exact hK
  case body =>
    rintro l pre x W ⟨⟨A', c', bs, hv, hown, hbs, hsW⟩, hB⟩ hlt
    have hc := hv.cell
    have HXD := Lib.hid x.2
    have hwD : Below w.heap.size w W.drew := below_drewN hB 1
    have CS := Lib.hid (callsIn_wide.2 (HSO x.1.A x.1.n x.1.c x.1.es W.drew (HXD.out.1.below hwD) (by have := HXD.out.2.1; omega)) : CallsIn Fence.wide 0 _ _ _ _ _)
    gi_wp2
    refine wpIn_region_any (by kernel_rfl) ?_
    change wpAnyIn _ _ _ _ _ _ _ _ _ (World.drew _)
    refine wpAnyIn_ready (rs := [0, 1]) (by kernel_rfl) (by simp) (BigFrame.allReadyIn_want rfl rfl (fun K hK => ?oa) (BigFrame.allReadyIn_want rfl rfl (fun K hK => ?ob) AllReadyIn.nil))
    all_goals (go_simp; refine hK _ _ ?_; clear hK K)
    case' oa => (refine wpAnyIn_ready (rs := [1]) (by kernel_rfl) (by simp) (BigFrame.allReadyIn_want rfl rfl (fun K hK => ?_) AllReadyIn.nil); go_simp; refine hK _ _ ?_; clear hK K; refine wpAnyIn_ready (rs := [2]) (by kernel_rfl) (by simp) (BigFrame.allReadyIn_want rfl rfl (fun K hK => ?_) AllReadyIn.nil))
    case' ob => (refine wpAnyIn_ready (rs := [0, 2]) (by kernel_rfl) (by simp) (BigFrame.allReadyIn_want rfl rfl (fun K hK => ?oc) (BigFrame.allReadyIn_want rfl rfl (fun K hK => ?od) AllReadyIn.nil)))
    case' oc => (go_simp; refine hK _ _ ?_; clear hK K; refine wpAnyIn_ready (rs := [2]) (by kernel_rfl) (by simp) (BigFrame.allReadyIn_want rfl rfl (fun K hK => ?_) AllReadyIn.nil))
    all_goals
      go_simp
      refine ⟨trivial, (CallsIn.inRound l CS.out).mono ?_⟩
      rintro e w2 ⟨A2, c2, rfl, ho2, hb2⟩
      have hbW : Below W.heap.size W w2 := g_chain (below_drewN (Below.refl _ W) 1) hb2
      have hv2 : Boxed w2 w.heap.size 185 (.slice A' pre.length c') := (hbW.block _ hv.lt).trans hv
      have hc2 := hv2.cell
      have hc3 := (hv2.alloc (.cells #[.slice A2 x.1.n c2] 196)).cell
      refine hK _ _ ?_
      clear hK K
    case' oa => (refine wpAnyIn_ready (rs := [3]) (by kernel_rfl) (by simp) (BigFrame.allReadyIn_want rfl rfl (fun K hK => ?_) AllReadyIn.nil); go_simp; refine hK _ _ ?_; clear hK K; refine wpAnyIn_ready (rs := [4]) (by kernel_rfl) (by simp) (BigFrame.allReadyIn_want rfl rfl (fun K hK => ?_) AllReadyIn.nil); go_simp; refine hK _ _ ?_; clear hK K)
    case' oc => (refine wpAnyIn_ready (rs := [3]) (by kernel_rfl) (by simp) (BigFrame.allReadyIn_want rfl rfl (fun K hK => ?_) AllReadyIn.nil); go_simp; refine hK _ _ ?_; clear hK K; refine wpAnyIn_ready (rs := [4]) (by kernel_rfl) (by simp) (BigFrame.allReadyIn_want rfl rfl (fun K hK => ?_) AllReadyIn.nil); go_simp; refine hK _ _ ?_; clear hK K)
    case' od => (refine wpAnyIn_ready (rs := [0, 3]) (by kernel_rfl) (by simp) (BigFrame.allReadyIn_want rfl rfl (fun K hK => ?oe) (BigFrame.allReadyIn_want rfl rfl (fun K hK => ?of) AllReadyIn.nil)))
    case' oe => (go_simp; refine hK _ _ ?_; clear hK K; refine wpAnyIn_ready (rs := [3]) (by kernel_rfl) (by simp) (BigFrame.allReadyIn_want rfl rfl (fun K hK => ?_) AllReadyIn.nil); go_simp; refine hK _ _ ?_; clear hK K; refine wpAnyIn_ready (rs := [4]) (by kernel_rfl) (by simp) (BigFrame.allReadyIn_want rfl rfl (fun K hK => ?_) AllReadyIn.nil); go_simp; refine hK _ _ ?_; clear hK K)
    case' of => (go_simp; refine hK _ _ ?_; clear hK K; refine wpAnyIn_ready (rs := [0, 4]) (by kernel_rfl) (by simp) (BigFrame.allReadyIn_want rfl rfl (fun K hK => ?og) (BigFrame.allReadyIn_want rfl rfl (fun K hK => ?oh) AllReadyIn.nil)))
    case' og => (go_simp; refine hK _ _ ?_; clear hK K; refine wpAnyIn_ready (rs := [4]) (by kernel_rfl) (by simp) (BigFrame.allReadyIn_want rfl rfl (fun K hK => ?_) AllReadyIn.nil); go_simp; refine hK _ _ ?_; clear hK K)
    case' oh => (go_simp; refine hK _ _ ?_; clear hK K; refine wpAnyIn_ready (rs := [0]) (by kernel_rfl) (by simp) (BigFrame.allReadyIn_want rfl rfl (fun K hK => ?_) AllReadyIn.nil); go_simp; refine hK _ _ ?_; clear hK K)
    all_goals
      have hO2 := hown.below hbW
      have hs2 := hbW.size
      have hrow := hO2.row.alloc (.cells #[.slice A2 x.1.n c2] 196)
      refine wpAnyIn_ready (rs := [5]) (by kernel_rfl) (by simp) (BigFrame.allReadyIn_want rfl rfl (fun K hK => ?_) AllReadyIn.nil)
      refine wpIn_append_own _ (.tmp 13) (.tmp 17) 185 rfl (w.heap.size + 3) 196 i0 _ 1 24 Try.underlying185 hi hz0 hz1 hz2 rfl (by omega) (.slice A' pre.length c') pre.length (bs.flatMap BE.cells) rfl hrow ⟨w2.heap.size, 0, none⟩ 1 1 (BE.cells ⟨A2, x.1.n, c2, sortR x.1.es⟩) rfl rfl (cell_one_new _ _ _) (BE.cells_one _) (by simp only [maxLen]; omega) (by omega) (by simp; omega) ?_
      intro v3 w3 hown3 hg3 hat3
      refine hK _ _ ?_
      clear hK K hat3
      obtain ⟨P3, cc3, rfl⟩ := rec_form hown3
      obtain ⟨hv3, hv4, -, hk4, hb4⟩ := hv2.appended (by decide) (own_monoG hO2.row (by omega)) (by omega) (Nat.le_refl _) (own_monoG hown3 (by omega : w.heap.size ≤ w.heap.size + 3)) hg3
      have hc4 := hv3.cell
      have hf4 := hv3.frozen
      refine wpAnyIn_ready (rs := [6]) (by kernel_rfl) (by simp) (BigFrame.allReadyIn_want rfl rfl (fun K hK => ?_) AllReadyIn.nil)
      go_simp
      refine hK _ _ ?_
      clear hK K
      refine wpAnyIn_done (by kernel_rfl) ?_ _
      gi_wp2
      have hone : OwnL w2 W.heap.size [⟨A2, x.1.n, c2, sortR x.1.es⟩] := OwnL.one (d := ⟨A2, x.1.n, c2, sortR x.1.es⟩) ho2 ((sortR_perm _).length_eq.trans HXD.out.1.len)
      have hall := hO2.dat.append (hone.mono hsW) (apartT_of_time hown.dat (Nat.le_refl _) hone (Nat.le_refl _))
      have hall2 := (hall.below (below_a1 w2 (.cells #[.slice A2 x.1.n c2] 196))).grow hrow (by decide) hg3
      have hpl : (pre ++ [x]).length = pre.length + 1 := by simp
      have hs3 := hg3.size
      refine ⟨KeepsOthers.from ((KeepsOthers.of_grownBy (grownBy_of_below hbW none) (fun j o e _ => by cases e)).trans hk4) _, ?_, ⟨P3, cc3, bs ++ [⟨A2, x.1.n, c2, sortR x.1.es⟩], ?_, ⟨?_, ?_, ?_⟩, ?_, ?_⟩, hB.trans ((hbW.mono hB.size).trans hb4)⟩
      · exact ((((OnlyB.refl _ W).below hbW).below (below_a1 w2 _)).grown hg3 (fun i e => .inr (by have := (hown.row.lt i e).1; omega))).grown (grownBy_setCell' w3 _ _) (fun i e => by cases e; exact .inl rfl)
      · rw [hpl]; exact hv4
      · rw [hpl, List.flatMap_append]; simpa using own_lowG hown3 (p := ⟨w.heap.size, 0, none⟩) (by show w.heap.size < w.heap.size + 3; omega) _
      · rw [hpl, List.length_append, hown.len]; rfl
      · exact hall2.setLow (p := ⟨w.heap.size, 0, none⟩) (by show w.heap.size < w.heap.size + 3; omega) _
      · rw [List.map_append, hbs, piecesOf, piecesOf, List.map_append, List.map_append]; rfl
      · simp at hs3 ⊢; omega
  case done =>
    rintro D ys W hD hys ⟨⟨A', c', bs, hv, hown, hbs, hsW⟩, hB⟩ hK
    have hc := hv.cell
    gi_wp2
    refine ⟨by simp, .inl ⟨_, _, rfl, run_takeDeferred hK, ?_⟩⟩
    exact ⟨_, results_tmp rfl _ _ _, A', _, c', bs, rfl, (hown.mono (by omega)).quiet (grownBy_putObj' W D (.deferred none)) (fun r e => by cases e; exact ⟨_, hK, rfl⟩), by rw [hbs, hys]; rfl, hB.trans (belowK_b (w := w) (Nat.le_refl _) W D _ _ (by omega) hK rfl rfl)⟩
  case stop =>
    rintro D c pre W _ _ h _
    exact h.elim

theorem wf_le {b : Int} (h : (Lit.int .i64 b).wf = true) : b ≤ 9223372036854775807 := by
  unfold Lit.wf at h
  rw [Bool.and_eq_true, decide_eq_true_iff, decide_eq_true_iff] at h
  have := h.2
  change b ≤ 9223372036854775807 at this
  exact this

set_option maxRecDepth 10000 in
theorem implBatches (A : Option Addr) (n c : Nat) (es : List GE) (b : Int) (w : World) (hr : SlG w A n es) (hn : n ≤ 1048576) (hc : n ≤ c) (hb : b ≤ 9223372036854775807) :
    Calls Try.prog 155 #[.slice A n c, .int .i64 b] w (MadeT w (batchesZ b es)) := by
  by_cases h1 : b < 1
  · have HV := Lib.hid (batchesZ_no (l := es) h1)
    go_enter Try.func155, Try.ntmps155
    go_wp2
    go_ret
    exact ⟨_, _, _, [], rfl, ⟨World.ownsRow_nil _ _ _ _, rfl, OwnL.nil⟩, by rw [HV.out]; rfl, Below.refl _ _⟩
  · obtain ⟨k, rfl⟩ : ∃ k : Nat, b = k := ⟨b.toNat, by omega⟩
    rw [batchesZ_yes (by omega), Int.toNat_natCast]
    exact callsIn_wide.1 (implBatches_in (fun A n c es W h hn => implSortOne A n c es W h hn) A n c es k w hr hn hc (by omega) (by omega))
end Go.Proofs.Ytpgnappddddlpaa
