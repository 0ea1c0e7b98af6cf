/- The contract of the model's Joined. Condition: at most 2^20 shards, of at most 2^20 edges each. -/
import Derived.Test.YtbfdhlpncblahaaHeMath
import Derived.Test.YtbfdhlpncblahaaShOkS
import Derived.Test.YtbfdhlpncblahaaDBoxB
import Derived.Test.YtbfdhlpncblahaaMadeJ
namespace Go.Proofs.Ytbfdhlpncblahaa
open Go.RowKit

theorem Try.infoBool : (Try.prog.info? 4).map (fun i => (i.zero, i.size, i.bytes)) = some (some (.bool false), 1, 1) := by kernel_rfl
def vbo (xs : List Bool) : List Value := xs.map .bool
theorem vbo_get {xs : List Bool} {j : Nat} {b : Bool} (h : xs[j]? = some b) : (vbo xs)[j]? = some (.bool b) := by simp [vbo, h]
theorem vbo_set (xs : List Bool) (j : Nat) (b : Bool) : (vbo xs).set j (.bool b) = vbo (xs.set j b) := by simp [vbo, List.map_set]
theorem vbo_rep (n : Nat) : (List.replicate n false).flatMap (fun b : Bool => [Value.bool b]) = vbo (List.replicate n false) := by
  unfold vbo
  induction n with
  | zero => rfl
  | succ n ih => simp [List.replicate_succ, ih]
/-- One edge stored at place j. -/
theorem join_lay {w : World} {lo ty g c n m j : Nat} {F : List KE} {e : KE} (h : w.ownsRow lo ty 3 (.slice (some ⟨g, 0, none⟩) n c) n ((edgeRow m F).flatMap GE.cells)) (hj : e.i = (j : Int)) (hm : j < m) (hn : hadB F j = false) :
    (((w.setCell ⟨g, j * 3, none⟩ (.int .i64 e.f)).setCell ⟨g, j * 3 + 1, none⟩ (.int .i64 e.t)).setCell ⟨g, j * 3 + 2, none⟩ (.int .i64 e.w)).ownsRow lo ty 3 (.slice (some ⟨g, 0, none⟩) n c) n ((edgeRow m (F ++ [e])).flatMap GE.cells) ∧
      w.grownBy (((w.setCell ⟨g, j * 3, none⟩ (.int .i64 e.f)).setCell ⟨g, j * 3 + 1, none⟩ (.int .i64 e.t)).setCell ⟨g, j * 3 + 2, none⟩ (.int .i64 e.w)) (some g) := by
  have hl : j < (edgeRow m F).length := by rw [edgeRow_len]; exact hm
  have h1 : edgeRow m F = (edgeRow m F).take j ++ (edgeRow m F)[j] :: (edgeRow m F).drop (j + 1) := by
    rw [← List.drop_eq_getElem_cons hl, List.take_append_drop]
  have h2 : edgeRow m (F ++ [e]) = (edgeRow m F).take j ++ e.ge :: (edgeRow m F).drop (j + 1) := by
    rw [← edgeRow_snoc hj hn]
    exact (List.set_eq_take_append_cons_drop ..).trans (if_pos hl)
  rw [h1] at h
  have h3 := g_lay (k := j) (e := e.ge) h (by rw [List.length_take]; omega)
  rw [h2]
  exact h3

set_option maxRecDepth 20000 in
set_option maxHeartbeats 8000000 in
theorem specJoined (N : Int) (A : Option Addr) (n c : Nat) (bs : List HE) (w : World) (hr : SlH w A n bs) (hn : n ≤ 1048576) (hs : ∀ e ∈ bs, e.n ≤ 1048576) :
    Calls Try.prog 29 #[.int .i64 N, .slice A n c] w (MadeJ w (joinN N (sdL bs)) (joinE N (sdL bs)) (joinB N (sdL bs))) := by
  obtain ⟨i0, hi, hz0, hz1, hz2⟩ := info_parts Try.infoEdge
  obtain ⟨j0, hj, jz0, jz1, jz2⟩ := info_parts Try.infoBool
  have HR := Lib.hid hr
  have HL := Lib.hid hr.len
  have HS := Lib.hid hs
  clear hr hs
  have HB0 := Lib.hid (below_a1 w (.cells #[.int .i64 0, .slice none 0 0] 42))
  have R0 := Lib.hid (DBox.new w (.int .i64 0) (.slice none 0 0) 42)
  go_enter Try.func29, Try.ntmps29
  go_wp2
  go_loopw [6, 7, 18] (fun u v i wr => ∃ (k m : Nat) (a : Int), k ≤ n ∧ i = .int .i64 k ∧ v = .int .i64 a ∧ u = .int .i64 m ∧ 0 ≤ a ∧ a ≤ 150 ∧ m ≤ 400 * k ∧ Hid (m = (flatK ((sdL bs).take k)).length) ∧ Hid (chainB N 0 (sdL bs) = chainB N a ((sdL bs).drop k)) ∧ Hid (DBox wr w.heap.size (.int .i64 0) (.slice none 0 0)) ∧ Hid (Below w.heap.size w wr)) (fun _ _ i _ => n - (intOf i).toNat)
  case atStart => exact ⟨0, 0, 0, Nat.zero_le _, rfl, rfl, rfl, by omega, by omega, Nat.zero_le _, Lib.hid rfl, Lib.hid rfl, R0, HB0⟩
  case round =>
    clear R0 HB0
    obtain ⟨k, m, a, hk, rfl, rfl, rfl, ha0, ha1, hm4, hm, hch, hbox, hbel⟩ := hrel
    by_cases hlt : k < n
    · obtain ⟨b, off, e, rfl, hbw, he, hok, c0, c1, c2⟩ := HR.out.at_ hlt
      have c0 := (hbel.out.cell (p := ⟨b, off + k * 3, none⟩) hbw).trans c0
      have c1 := (hbel.out.cell (p := ⟨b, off + k * 3 + 1, none⟩) hbw).trans c1
      have c2 := (hbel.out.cell (p := ⟨b, off + k * 3 + 2, none⟩) hbw).trans c2
      have C := Lib.hid (fun W (h : Below w.heap.size w W) => specShardOk e.lo e.hi e.A e.n e.c e.es W (hok.out.rd.below h) (HS.out e (List.mem_of_getElem? he.out)))
      have HA := Lib.hid (g_chain hbel.out (below_a1 wr (.cells #[.int .i64 e.lo, .int .i64 e.hi, .slice e.A e.n e.c] 29)))
      have HC := Lib.hid (hch.out.trans (chain_step he.out))
      have HEL := Lib.hid hok.out.rd.len
      clear hch hok
      go_wp2_with fail
      refine (C.out _ HA.out).mono ?_
      rintro e1 w1 ⟨rfl, hb1⟩
      have X1 := Lib.hid ((HBox.new wr e.lo e.hi e.A e.n e.c 29).below hb1)
      have HB := Lib.hid (g_chain HA.out hb1)
      have hbox1 := Lib.hid ((hbox.out.alloc _).below hb1)
      obtain ⟨l0, x0, x1, x2⟩ := X1.out
      obtain ⟨l1, y0, y1, yf⟩ := hbox1.out
      have yf0 := yf 0
      have yf1 := yf 1
      clear hb1 C c0 c1 c2 yf hbox
      cases hv : shardB e.lo e.hi e.es with
      | false =>
        have HJ : Hid (joinB N (sdL bs) = false) := Lib.hid (join_chain (by rw [HC.out, hv]; rfl))
        clear hv
        go_wp2
        refine bodyPost_ret (v := .tuple #[.agg #[.int .i64 0, .slice none 0 0], .bool false]) (by simp [results, Try.results29, go_sem, y0, y1]) rfl ?_
        rw [HJ.out, (join_none HJ.out).1, (join_none HJ.out).2]
        exact ⟨none, 0, rfl, World.ownsRow_nil _ _ _ _, by repeat (first | exact HB.out | refine Below.setCell ?_ (by simp) _)⟩
      | true =>
        by_cases hq : e.lo = a
        · have HN : Hid (chainB N 0 (sdL bs) = chainB N e.hi ((sdL bs).drop (k + 1))) := Lib.hid (by rw [HC.out, hv, decide_eq_true hq]; rfl)
          have hsb := shardB_iff hv
          have hen : e.n ≤ 400 := by have := hsb.2.2.2.1; have := HEL.out; omega
          have he0 : 0 ≤ e.hi := by omega
          have he1 : e.hi ≤ 150 := hsb.2.2.1
          have HM : Hid (m + e.n = (flatK ((sdL bs).take (k + 1))).length) := Lib.hid (by rw [flat_step he.out, List.length_append, ← hm.out, HEL.out])
          clear hv HC hsb
          go_wp2
          go_roundw
          case rel => exact ⟨k + 1, m + e.n, e.hi, by omega, by go_num, rfl, by go_num, he0, he1, by omega, HM, HN, hbox1, HB⟩
          case measure => simp [intOf]; omega
        · have HJ : Hid (joinB N (sdL bs) = false) := Lib.hid (join_chain (by rw [HC.out, decide_eq_false hq]; simp))
          have hq2 : (e.lo == a) = false := by simpa using hq
          clear hv HC
          go_wp2
          refine bodyPost_ret (v := .tuple #[.agg #[.int .i64 0, .slice none 0 0], .bool false]) (by simp [results, Try.results29, go_sem, y0, y1]) rfl ?_
          rw [HJ.out, (join_none HJ.out).1, (join_none HJ.out).2]
          exact ⟨none, 0, rfl, World.ownsRow_nil _ _ _ _, by repeat (first | exact HB.out | refine Below.setCell ?_ (by simp) _)⟩
    · obtain rfl : k = n := by omega
      have hFA := flat_all bs (k := k) (by rw [HL.out]; exact Nat.le_refl _)
      rw [hFA] at hm
      clear hFA
      have HV : Hid (chainB N 0 (sdL bs) = decide (a = N)) := Lib.hid (by
        have h := hch.out
        rw [List.drop_eq_nil_of_le (by rw [sdL_len, HL.out]; exact Nat.le_refl _), chainB] at h
        exact h)
      clear hch
      obtain ⟨l1, y0, y1, yf⟩ := hbox.out
      have yf0 := yf 0
      have yf1 := yf 1
      clear yf
      by_cases hq : a = N
      · subst hq
        have HC : Hid (chainB a 0 (sdL bs) = true) := Lib.hid (by rw [HV.out]; simp)
        by_cases hm5 : m ≤ 400
        · have HFE := Lib.hid (flat_each HC.out)
          have hrw : w.heap.size < wr.heap.size := hbox.out.lt
          go_wp2_with (first
            | (at_make; refine wpList_make_full _ rfl (.tmp 57) (.tmp 57) 40 rfl wr.heap.size 91 i0 (.agg #[.int .i64 0, .int .i64 0, .int .i64 0]) 3 Try.underlying40 hi hz0 hz1 .i64 .i64 _ _ m rfl rfl rfl rfl (by rw [hz2]; omega) (by unfold maxLen; omega) (Nat.le_refl _) ?_; intro w2 hown2 hg2)
            | (at_make; refine wpList_make_full _ rfl (.tmp 60) (.tmp 60) 100 rfl (w2.heap.size + 1) 4 j0 (.bool false) 1 Try.underlying100 hj jz0 jz1 .i64 .i64 _ _ m rfl rfl rfl rfl (by rw [jz2]; omega) (by unfold maxLen; omega) (by simp) ?_; intro w4 hown4 hg4))
          have hE2 := hown2
          rw [g_rep GE.cells zeroG 3 GE.cells_len (by omega) (Value.agg #[.int .i64 0, .int .i64 0, .int .i64 0]).cells rfl m, ← edgeRow_nil] at hE2
          have hH4 := hown4
          rw [g_rep (fun b : Bool => [Value.bool b]) false 1 (fun _ => rfl) (by omega) (Value.bool false).cells rfl m, vbo_rep, ← hadRow_nil] at hH4
          have heb : wr.heap.size < w2.heap.size := (hE2.lt wr.heap.size rfl).2
          obtain ⟨eb, hebe⟩ : ∃ eb, eb = wr.heap.size := ⟨_, rfl⟩
          obtain ⟨gb, hgbe⟩ : ∃ gb, gb = w2.heap.size := ⟨_, rfl⟩
          have hbA : Below wr.heap.size wr (w2.alloc (.cells #[.int .i64 a, .slice (some ⟨wr.heap.size, 0, none⟩) m m] 42)) := ((Below.refl _ _).grown hg2 (Nat.le_refl _) (by simp)).trans ((below_a1 w2 _).mono (Nat.le_of_lt heb))
          have hbB := hbA.grown hg4 hbA.size (by simp)
          have hbox4 := Lib.hid (hbox.out.below hbB)
          have hbel4 := Lib.hid (g_chain hbel.out hbB)
          have hG4 := Lib.hid ((DBox.new w2 (.int .i64 a) (.slice (some ⟨wr.heap.size, 0, none⟩) m m) 42).grown hg4 (by simp))
          have hE4 := Lib.hid ((hE2.alloc (.cells #[.int .i64 a, .slice (some ⟨wr.heap.size, 0, none⟩) m m] 42)).kept hg4 (.inr (by simp [Value.ownBlock])))
          rw [World.size_alloc] at hH4
          have hH5 := Lib.hid hH4
          clear hown2 hown4 hE2 hH4 hbA hbB hg2 hg4 hbox l1 y0 y1 yf0 yf1 hbel
          rw [← hebe] at hG4 hE4 heb hrw ⊢
          rw [← hgbe] at hG4 hH5 heb ⊢
          clear hebe hgbe
          go_loopw [64] (fun i wr => ∃ k2 : Nat, k2 ≤ k ∧ i = .int .i64 k2 ∧ Hid (∀ x ∈ flatK ((sdL bs).take k2), x.i < (m : Int) ∧ x.f < a) ∧ Hid (((flatK ((sdL bs).take k2)).map KE.i).Nodup) ∧ Hid (wr.ownsRow eb 91 3 (.slice (some ⟨eb, 0, none⟩) m m) m ((edgeRow m (flatK ((sdL bs).take k2))).flatMap GE.cells)) ∧ Hid (wr.ownsRow (gb + 1) 4 1 (.slice (some ⟨gb + 1, 0, none⟩) m m) m (vbo (hadRow m (flatK ((sdL bs).take k2))))) ∧ Hid (DBox wr gb (.int .i64 a) (.slice (some ⟨eb, 0, none⟩) m m)) ∧ Hid (DBox wr w.heap.size (.int .i64 0) (.slice none 0 0)) ∧ Hid (Below w.heap.size w wr)) (fun i _ => k - (intOf i).toNat)
          case atStart => exact ⟨0, Nat.zero_le _, rfl, Lib.hid (by simp [flatK]), Lib.hid (by simp [flatK]), hE4, hH5, hG4, hbox4, hbel4⟩
          case round =>
            rename World => W2
            clear hE4 hH5 hG4 hbox4 hbel4
            obtain ⟨k2, hk2, rfl, hall, hnd, hE, hH, hG, hbox, hbel⟩ := hrel
            by_cases hlk : k2 < k
            · obtain ⟨b, off, e, rfl, hbw, he, hok, c0, c1, c2⟩ := HR.out.at_ hlk
              obtain ⟨elo, ehi, eA, en, ec, ees⟩ := e
              have c0 : W2.cell? ⟨b, off + k2 * 3, none⟩ = some (.int .i64 elo) := (hbel.out.cell (p := ⟨b, off + k2 * 3, none⟩) hbw).trans c0
              have c1 : W2.cell? ⟨b, off + k2 * 3 + 1, none⟩ = some (.int .i64 ehi) := (hbel.out.cell (p := ⟨b, off + k2 * 3 + 1, none⟩) hbw).trans c1
              have c2 : W2.cell? ⟨b, off + k2 * 3 + 2, none⟩ = some (.slice eA en ec) := (hbel.out.cell (p := ⟨b, off + k2 * 3 + 2, none⟩) hbw).trans c2
              have hen : en ≤ 400 := by
                have h1 := shardB_iff (chain_each HC.out (elo, ehi, ees) (List.mem_map_of_mem (List.mem_of_getElem? he.out)))
                have h2 := hok.out.rd.len
                have h3 : ees.length ≤ 400 := h1.2.2.2.1
                have h4 : ees.length = en := h2
                omega
              have HEL : Hid (ees.length = en) := Lib.hid hok.out.rd.len
              have HRE : Hid (SlK w eA en ees) := Lib.hid hok.out.rd
              have HBA := Lib.hid (below_a1 W2 (.cells #[.int .i64 elo, .int .i64 ehi, .slice eA en ec] 29))
              have hbox1 := Lib.hid (hbox.out.below HBA.out)
              have hbel1 := Lib.hid (g_chain hbel.out HBA.out)
              have hG1 := Lib.hid (hG.out.below HBA.out)
              have hall1 : Hid (∀ x ∈ flatK ((sdL bs).take k2) ++ ees.take 0, x.i < (m : Int) ∧ x.f < a) := Lib.hid (by simpa using hall.out)
              have hnd1 : Hid (((flatK ((sdL bs).take k2) ++ ees.take 0).map KE.i).Nodup) := Lib.hid (by simpa using hnd.out)
              have hE1 := Lib.hid (own_below hE.out HBA.out)
              have hH1 := Lib.hid (own_below hH.out HBA.out)
              rw [show flatK ((sdL bs).take k2) = flatK ((sdL bs).take k2) ++ ees.take 0 by simp] at hE1 hH1
              clear hok hbox hG hall hnd hE hH
              go_wp2
              clear c0 c1 c2
              generalize W2.alloc (.cells #[.int .i64 elo, .int .i64 ehi, .slice eA en ec] 29) = W3 at *
              go_loopw [71] (fun i wr => ∃ j : Nat, j ≤ en ∧ i = .int .i64 j ∧ Hid (∀ x ∈ flatK ((sdL bs).take k2) ++ ees.take j, x.i < (m : Int) ∧ x.f < a) ∧ Hid (((flatK ((sdL bs).take k2) ++ ees.take j).map KE.i).Nodup) ∧ Hid (wr.ownsRow eb 91 3 (.slice (some ⟨eb, 0, none⟩) m m) m ((edgeRow m (flatK ((sdL bs).take k2) ++ ees.take j)).flatMap GE.cells)) ∧ Hid (wr.ownsRow (gb + 1) 4 1 (.slice (some ⟨gb + 1, 0, none⟩) m m) m (vbo (hadRow m (flatK ((sdL bs).take k2) ++ ees.take j)))) ∧ Hid (DBox wr gb (.int .i64 a) (.slice (some ⟨eb, 0, none⟩) m m)) ∧ Hid (DBox wr w.heap.size (.int .i64 0) (.slice none 0 0)) ∧ Hid (Below w.heap.size w wr)) (fun i _ => en - (intOf i).toNat)
              case atStart => exact ⟨0, Nat.zero_le _, rfl, hall1, hnd1, hE1, hH1, hG1, hbox1, hbel1⟩
              case round =>
                rename World => W4
                clear hbox1 hbel1 hG1 hall1 hnd1 hE1 hH1 HBA
                obtain ⟨j, hj, rfl, hall, hnd, hE, hH, hG, hbox, hbel⟩ := hrel
                by_cases hlj : j < en
                · obtain ⟨b', off', x, rfl, hbw', hx, d0, d1, d2, d3, d4⟩ := HRE.out.at_ hlj
                  have d0 := (hbel.out.cell (p := ⟨b', off' + j * 5, none⟩) hbw').trans d0
                  have d1 := (hbel.out.cell (p := ⟨b', off' + j * 5 + 1, none⟩) hbw').trans d1
                  have d2 := (hbel.out.cell (p := ⟨b', off' + j * 5 + 2, none⟩) hbw').trans d2
                  have d3 := (hbel.out.cell (p := ⟨b', off' + j * 5 + 3, none⟩) hbw').trans d3
                  have d4 := (hbel.out.cell (p := ⟨b', off' + j * 5 + 4, none⟩) hbw').trans d4
                  obtain ⟨G, hG9⟩ := flat_mid he.out hx.out
                  have HFM := Lib.hid hG9
                  have hxF : x ∈ flatK (sdL bs) := by
                    rw [hG9]
                    simp
                  have hx3 := HFE.out x hxF
                  have HXF := Lib.hid hxF
                  have HTK := Lib.hid (g_take ees j x hx.out)
                  have HBX := Lib.hid (below_a1 W4 (.cells #[.int .i64 x.f, .int .i64 x.t, .int .i64 x.w, .int .i64 x.i, .int .i64 x.v] 78))
                  have hbox2 := Lib.hid (hbox.out.below HBX.out)
                  have hbel2 := Lib.hid (g_chain hbel.out HBX.out)
                  have hG2 := Lib.hid (hG.out.below HBX.out)
                  have hE2 := Lib.hid (own_below hE.out HBX.out)
                  have hH2 := Lib.hid (own_below hH.out HBX.out)
                  obtain ⟨l0, y0, y1, yf⟩ := hbox2.out
                  have yf0 := yf 0
                  have yf1 := yf 1
                  have HLT := Lib.hid ((hH.out.lt (gb + 1) rfl).2)
                  have HE4 := Lib.hid hE.out
                  have HH4 := Lib.hid hH.out
                  have HG4 := Lib.hid hG.out
                  have HX4 := Lib.hid hbox.out
                  clear yf hxF hbox hG hE hH hG9
                  obtain ⟨xf, xt, xw, xi, xv⟩ := x
                  simp only at d0 d1 d2 d3 d4 hx3 HBX hbox2 hbel2 hG2 hE2 hH2 y0 y1 yf0 yf1
                  obtain ⟨p, rfl⟩ : ∃ p : Nat, xi = p := ⟨xi.toNat, by omega⟩
                  rcases Nat.lt_or_ge p m with hpm | hpm
                  · rcases Int.lt_or_le xf a with hxa | hxa
                    · obtain ⟨hd, hhd⟩ : ∃ hd, hadB (flatK ((sdL bs).take k2) ++ ees.take j) p = hd := ⟨_, rfl⟩
                      have HHD := Lib.hid hhd
                      have hc9 : (W4.alloc (.cells #[.int .i64 xf, .int .i64 xt, .int .i64 xw, .int .i64 (p : Int), .int .i64 xv] 78)).cell? ⟨gb + 1, p, none⟩ = some (.bool hd) := (hH2.out.cellAt p (by omega)).trans (by rw [vbo_get (hadRow_get hpm), hhd])
                      have hf9 := hH2.out.frozenAt p
                      have hl9 := (hH2.out.lt (gb + 1) rfl).2
                      clear hhd
                      cases hd with
                      | true =>
                        have HJ : Hid (joinB a (sdL bs) = false) := Lib.hid (join_dup (by rw [HFM.out]; exact nodup_no rfl HHD.out))
                        go_wp2
                        refine bodyPost_ret (v := .tuple #[.agg #[.int .i64 0, .slice none 0 0], .bool false]) (by simp [results, Try.results29, go_sem, y0, y1]) rfl ?_
                        rw [HJ.out, (join_none HJ.out).1, (join_none HJ.out).2]
                        exact ⟨none, 0, rfl, World.ownsRow_nil _ _ _ _, by repeat (first | exact hbel2.out | refine Below.setCell ?_ (by simp) _)⟩
                      | false =>
                        obtain ⟨eo, heo⟩ : ∃ eo, edgeOf (flatK ((sdL bs).take k2) ++ ees.take j) p = eo := ⟨_, rfl⟩
                        have hq9 := fun i (hi : i < 3) => (HE4.out.cellAt (p * 3 + i) (by omega)).trans (flat_get GE.cells 3 GE.cells_len _ p i eo (by rw [edgeRow_get hpm, heo]) hi)
                        have q0 : W4.cell? ⟨eb, p * 3, none⟩ = some (.int .i64 eo.f) := hq9 0 (by omega)
                        have q1 : W4.cell? ⟨eb, p * 3 + 1, none⟩ = some (.int .i64 eo.t) := hq9 1 (by omega)
                        have q2 : W4.cell? ⟨eb, p * 3 + 2, none⟩ = some (.int .i64 eo.w) := hq9 2 (by omega)
                        have qf0 := HE4.out.frozenAt (p * 3)
                        have qf1 := HE4.out.frozenAt (p * 3 + 1)
                        have qf2 := HE4.out.frozenAt (p * 3 + 2)
                        have hc8 : W4.cell? ⟨gb + 1, p, none⟩ = some (.bool false) := (HH4.out.cellAt p (by omega)).trans (by rw [vbo_get (hadRow_get hpm), HHD.out])
                        have hf8 := HH4.out.frozenAt p
                        have hl10 : gb + 1 < W4.heap.size := HLT.out
                        have hl11 : eb < W4.heap.size := (HE4.out.lt eb rfl).2
                        have hH6 := HH4.out.stored p (.bool true)
                        rw [vbo_set, hadRow_snoc (e := ⟨xf, xt, xw, (p : Int), xv⟩) rfl] at hH6
                        have hE6 := HE4.out.kept hH6.2 (.inr (by simp [Value.ownBlock]; omega))
                        have hE7 := join_lay (e := ⟨xf, xt, xw, (p : Int), xv⟩) hE6 rfl hpm HHD.out
                        have HE8 := Lib.hid hE7.1
                        have HH8 := Lib.hid (hH6.1.kept hE7.2 (.inr (by simp [Value.ownBlock]; omega)))
                        have HG8 := Lib.hid ((HG4.out.grown hH6.2 (by simp)).grown hE7.2 (by simp; omega))
                        have HR8 := Lib.hid ((HX4.out.grown hH6.2 (by simp; omega)).grown hE7.2 (by simp; omega))
                        have HB8 := Lib.hid ((hbel.out.grown hH6.2 hbel.out.size (fun i hi => by injection hi with hi; omega)).grown hE7.2 (by simpa using hbel.out.size) (fun i hi => by injection hi with hi; omega))
                        have HND : Hid (((flatK ((sdL bs).take k2) ++ ees.take (j + 1)).map KE.i).Nodup) := Lib.hid (by rw [HTK.out, ← List.append_assoc]; exact nodup_snoc hnd.out rfl HHD.out)
                        have HAL : Hid (∀ y ∈ flatK ((sdL bs).take k2) ++ ees.take (j + 1), y.i < (m : Int) ∧ y.f < a) := Lib.hid (by
                          intro y hy
                          rw [HTK.out, ← List.append_assoc] at hy
                          rcases List.mem_append.1 hy with hy | hy
                          · exact hall.out y hy
                          · simp at hy; subst hy; exact ⟨by show (p : Int) < m; omega, hxa⟩)
                        rw [List.append_assoc, ← HTK.out] at HE8 HH8
                        obtain ⟨gl, g0, g1, gf⟩ := HG4.out
                        clear hq9 heo hH6 hE6 hE7 gf hc9 hf9 hl9
                        go_wp2
                        go_roundw
                        case rel =>
                          refine ⟨j + 1, by omega, by go_num, HAL, HND, Lib.hid ?_, Lib.hid ?_, Lib.hid ?_, Lib.hid ?_, Lib.hid ?_⟩
                          · exact own_below HE8.out (below_a1 _ _)
                          · exact own_below HH8.out (below_a1 _ _)
                          · exact HG8.out.alloc _
                          · exact HR8.out.alloc _
                          · exact g_chain HB8.out (below_a1 _ _)
                        case measure => simp [intOf]; omega
                    · have HJ := Lib.hid (join_no1 (N := a) HXF.out (.inr hxa))
                      go_wp2
                      refine bodyPost_ret (v := .tuple #[.agg #[.int .i64 0, .slice none 0 0], .bool false]) (by simp [results, Try.results29, go_sem, y0, y1]) rfl ?_
                      rw [HJ.out, (join_none HJ.out).1, (join_none HJ.out).2]
                      exact ⟨none, 0, rfl, World.ownsRow_nil _ _ _ _, by repeat (first | exact hbel2.out | refine Below.setCell ?_ (by simp) _)⟩
                  · have HJ := Lib.hid (join_no1 (N := a) HXF.out (.inl (by rw [← hm.out]; show (m : Int) ≤ (p : Int); omega)))
                    go_wp2
                    refine bodyPost_ret (v := .tuple #[.agg #[.int .i64 0, .slice none 0 0], .bool false]) (by simp [results, Try.results29, go_sem, y0, y1]) rfl ?_
                    rw [HJ.out, (join_none HJ.out).1, (join_none HJ.out).2]
                    exact ⟨none, 0, rfl, World.ownsRow_nil _ _ _ _, by repeat (first | exact hbel2.out | refine Below.setCell ?_ (by simp) _)⟩
                · obtain rfl : j = en := by omega
                  have hft : Hid (flatK ((sdL bs).take (k2 + 1)) = flatK ((sdL bs).take k2) ++ ees.take j) := Lib.hid (by rw [show flatK ((sdL bs).take (k2 + 1)) = flatK ((sdL bs).take k2) ++ ees from flat_step he.out, show ees.take j = ees from List.take_of_length_le (by rw [HEL.out]; exact Nat.le_refl _)])
                  go_wp2
                  go_roundw
                  case rel => exact ⟨k2 + 1, by omega, by go_num, Lib.hid (by rw [hft.out]; exact hall.out), Lib.hid (by rw [hft.out]; exact hnd.out), Lib.hid (by rw [hft.out]; exact hE.out), Lib.hid (by rw [hft.out]; exact hH.out), hG, hbox, hbel⟩
                  case measure => simp [intOf]; omega
            · obtain rfl : k2 = k := by omega
              have hFB := flat_all bs (k := k2) (by rw [HL.out]; exact Nat.le_refl _)
              rw [hFB] at hall hnd hE
              clear hFB
              have HJ := Lib.hid (join_yes0 HC.out (by rw [← hm.out]; exact hm5) (by rw [← hm.out]; exact hall.out) hnd.out)
              have HEJ : Hid (edgeRow m (flatK (sdL bs)) = edgesJ (flatK (sdL bs))) := Lib.hid (by rw [hm.out]; rfl)
              have HJL : Hid ((edgesJ (flatK (sdL bs))).length = m) := Lib.hid (by rw [← HEJ.out, edgeRow_len])
              obtain ⟨l1, y0, y1, yf⟩ := hbox.out
              have yf0 := yf 0
              have yf1 := yf 1
              obtain ⟨gl, g0, g1, gf⟩ := hG.out
              clear yf gf
              go_wp2
              refine bodyPost_ret (v := .tuple #[.agg #[.int .i64 a, .slice (some ⟨eb, 0, none⟩) m m], .bool true]) (by simp [results, Try.results29, go_sem, y0, y1]) rfl ?_
              rw [HJ.out, (join_some HJ.out).1, (join_some HJ.out).2]
              refine ⟨_, m, by rw [HJL.out], ?_, by repeat (first | exact hbel.out | refine Below.setCell ?_ (by simp) _)⟩
              rw [HJL.out, ← HEJ.out]
              exact own_monoG (own_lowG (own_lowG hE.out (by show w.heap.size < eb; omega) _) (by show w.heap.size < eb; omega) _) (by omega)
        · have HJ : Hid (joinB a (sdL bs) = false) := Lib.hid (join_long (by rw [← hm.out]; omega))
          go_wp2
          refine bodyPost_ret (v := .tuple #[.agg #[.int .i64 0, .slice none 0 0], .bool false]) (by simp [results, Try.results29, go_sem, y0, y1]) rfl ?_
          rw [HJ.out, (join_none HJ.out).1, (join_none HJ.out).2]
          exact ⟨none, 0, rfl, World.ownsRow_nil _ _ _ _, by repeat (first | exact hbel.out | refine Below.setCell ?_ (by simp) _)⟩
      · have HJ : Hid (joinB N (sdL bs) = false) := Lib.hid (join_chain (by rw [HV.out]; exact decide_eq_false hq))
        have hq2 : (a == N) = false := by simpa using hq
        have hp : N < 0 ∨ (0 ≤ N ∧ 150 < N) ∨ (0 ≤ N ∧ N ≤ 150) := by omega
        rcases hp with h1 | ⟨h1, h2⟩ | ⟨h1, h2⟩
        all_goals
          go_wp2
          refine bodyPost_ret (v := .tuple #[.agg #[.int .i64 0, .slice none 0 0], .bool false]) (by simp [results, Try.results29, go_sem, y0, y1]) rfl ?_
          rw [HJ.out, (join_none HJ.out).1, (join_none HJ.out).2]
          exact ⟨none, 0, rfl, World.ownsRow_nil _ _ _ _, by repeat (first | exact hbel.out | refine Below.setCell ?_ (by simp) _)⟩
end Go.Proofs.Ytbfdhlpncblahaa
