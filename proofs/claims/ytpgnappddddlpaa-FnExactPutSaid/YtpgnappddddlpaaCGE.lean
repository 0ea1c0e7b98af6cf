/- The contract of the program's Joined. Condition: at most 2^20 shards, of at most 2^20 edges each. // The contracts of the program's graphOf, FarmOk and FarmGraph, and of what they call. Condition: at most 2^20 ends, shards and edges of a shard. // The contracts of the functions on ends that only read: the model's EndsOk, IntervalOf and Span, the program's IntervalOf. Condition: at most 2^20 ends. // The contract of the model's test for a number. -/
import Derived.Test.YtpgnappddddlpaaCGD
import Derived.Deep.RegionLaw
import Derived.Test.YtpgnappddddlpaaCGC
import Derived.Test.YtpgnappddddlpaaCGB
import Derived.Test.YtpgnappddddlpaaCGA
namespace Go.Proofs.Ytpgnappddddlpaa
open Go.RowKit Go.Maps

theorem zeroEdge (w : World) : (zeroValue 145).run Try.prog w = .ok (.agg #[.int .i64 0, .int .i64 0, .int .i64 0]) w := by kernel_rfl
set_option maxRecDepth 20000 in
set_option maxHeartbeats 8000000 in
theorem implJoined (N : Int) (A : Option Addr) (n c : Nat) (bs : List HE) (w : World) (hr : SlH w A n bs) (hn : n ≤ 1048576) (hs : ∀ e ∈ bs, e.n ≤ 1048576) :
    Calls Try.prog 102 #[.int .i64 N, .slice A n c] w (MadeJ w (joinN N (sdL bs)) (joinE N (sdL bs)) (joinB N (sdL bs))) := by
  obtain ⟨i0, hi, hz0, hz1, hz2⟩ := info_parts Try.infoEdge
  have CD := Lib.hid (fun W (h : Below w.heap.size w W) => implDivides N A n c bs W (hr.below h) hn hs)
  have HR := Lib.hid hr
  have HL := Lib.hid hr.len
  clear hr hs
  have HA := Lib.hid (below_a1 w (.cells #[.int .i64 0, .slice none 0 0] 58))
  go_enter Try.func102, Try.ntmps102
  go_wp2_with fail
  refine (CD.out _ HA.out).mono ?_
  rintro e w1 ⟨rfl, hb1⟩
  have R1 := Lib.hid ((DBox.new w (.int .i64 0) (.slice none 0 0) 58).below hb1)
  have HB1 := Lib.hid (g_chain HA.out hb1)
  clear hb1 CD
  cases hv : chainB N 0 (sdL bs) with
  | false =>
    have HJ := Lib.hid (join_chain hv)
    obtain ⟨l0, x0, x1, xf⟩ := R1.out
    have xf0 := xf 0
    have xf1 := xf 1
    clear xf hv
    go_wp2
    refine bodyPost_ret (v := .tuple #[.agg #[.int .i64 0, .slice none 0 0], .bool false]) (by simp [results, Try.results102, go_sem, x0, x1]) rfl ?_
    rw [HJ.out, (join_none HJ.out).1, (join_none HJ.out).2]
    exact ⟨none, 0, rfl, World.ownsRow_nil _ _ _ _, by repeat (first | exact HB1.out | refine Below.setCell ?_ (by simp) _)⟩
  | true =>
    have HFE := Lib.hid (flat_each hv)
    have HC := Lib.hid hv
    clear hv
    have hmm := @run_makeMap Try.prog
    go_wp2
    have M0 := Lib.hid (ByIdx.new w1)
    have R2 := Lib.hid (R1.out.alloc (.map #[] 0))
    have HB2 := Lib.hid (g_chain HB1.out (below_a1 w1 (.map #[] 0)))
    have hr0 : w.heap.size < w1.heap.size := R1.out.lt
    go_loopw [6, 24] (fun u i wr => ∃ k m : Nat, k ≤ n ∧ i = .int .i64 k ∧ u = .int .i64 m ∧ m ≤ 400 * k ∧ Hid (m = (flatK ((sdL bs).take k)).length) ∧ Hid (∀ e ∈ flatK ((sdL bs).take k), e.f < N) ∧ Hid (DBox wr w.heap.size (.int .i64 0) (.slice none 0 0)) ∧ Hid (ByIdx wr w1.heap.size m (flatK ((sdL bs).take k))) ∧ Hid (Below w.heap.size w wr)) (fun _ i _ => n - (intOf i).toNat)
    case atStart => exact ⟨0, 0, Nat.zero_le _, rfl, rfl, Nat.zero_le _, Lib.hid rfl, Lib.hid (by simp [flatK]), R2, M0, HB2⟩
    case round =>
      clear M0 R2 HB2 R1 HB1
      obtain ⟨k, m, hk, rfl, rfl, hm4, hm, hf, hbox, hmap, hbel⟩ := hrel
      by_cases hlt : k < n
      · obtain ⟨b, off, e, rfl, hbw, he, hok, c0, c1, c2⟩ := HR.out.at_ hlt
        obtain ⟨elo, ehi, eA, en, ec, ees⟩ := e
        have c0 : wr.cell? ⟨b, off + k * 3, none⟩ = some (.int .i64 elo) := (hbel.out.cell (p := ⟨b, off + k * 3, none⟩) hbw).trans c0
        have c1 : wr.cell? ⟨b, off + k * 3 + 1, none⟩ = some (.int .i64 ehi) := (hbel.out.cell (p := ⟨b, off + k * 3 + 1, none⟩) hbw).trans c1
        have c2 : wr.cell? ⟨b, off + k * 3 + 2, none⟩ = some (.slice eA en ec) := (hbel.out.cell (p := ⟨b, off + k * 3 + 2, none⟩) hbw).trans c2
        have hen : en ≤ 400 := by
          have h1 := shardB_iff (chain_each HC.out (elo, ehi, ees) (List.mem_map_of_mem (List.mem_of_getElem? he.out)))
          have h2 := hok.out.rd.len
          have h3 : ees.length ≤ 400 := h1.2.2.2.1
          have h4 : ees.length = en := h2
          omega
        have HEL : Hid (ees.length = en) := Lib.hid hok.out.rd.len
        have HRE : Hid (SlK w eA en ees) := Lib.hid hok.out.rd
        have HBA := Lib.hid (below_a1 wr (.cells #[.int .i64 elo, .int .i64 ehi, .slice eA en ec] 85))
        have hbox1 := Lib.hid (hbox.out.below HBA.out)
        have hmap1 := Lib.hid (hmap.out.below HBA.out)
        have hbel1 := Lib.hid (g_chain hbel.out HBA.out)
        have hmap0 : Hid (ByIdx (wr.alloc (.cells #[.int .i64 elo, .int .i64 ehi, .slice eA en ec] 85)) w1.heap.size (m + 0) (flatK ((sdL bs).take k) ++ ees.take 0)) := Lib.hid (by simpa using hmap1.out)
        have hf0 : Hid (∀ x ∈ flatK ((sdL bs).take k) ++ ees.take 0, x.f < N) := Lib.hid (by simpa using hf.out)
        clear hok hmap1 hmap hbox hf
        go_wp2
        clear c0 c1 c2
        generalize wr.alloc (.cells #[.int .i64 elo, .int .i64 ehi, .slice eA en ec] 85) = W1 at *
        go_loopw [6, 31] (fun u i wr => ∃ j : Nat, j ≤ en ∧ i = .int .i64 j ∧ u = .int .i64 ((m + j : Nat) : Int) ∧ Hid (∀ x ∈ flatK ((sdL bs).take k) ++ ees.take j, x.f < N) ∧ Hid (DBox wr w.heap.size (.int .i64 0) (.slice none 0 0)) ∧ Hid (ByIdx wr w1.heap.size (m + j) (flatK ((sdL bs).take k) ++ ees.take j)) ∧ Hid (Below w.heap.size w wr)) (fun _ i _ => en - (intOf i).toNat)
        case atStart => exact ⟨0, Nat.zero_le _, rfl, rfl, hf0, hbox1, hmap0, hbel1⟩
        case round =>
          clear hbox1 hmap0 hbel1 hf0 HBA
          rename World => W2
          obtain ⟨j, hj, rfl, rfl, hf, hbox, hmap, hbel⟩ := hrel
          by_cases hlj : j < en
          · obtain ⟨b', off', x, rfl, hbw', hx, d0, d1, d2, d3, d4⟩ := HRE.out.at_ hlj
            have d0 := (hbel.out.cell (p := ⟨b', off' + j * 5, none⟩) hbw').trans d0
            have d1 := (hbel.out.cell (p := ⟨b', off' + j * 5 + 1, none⟩) hbw').trans d1
            have d2 := (hbel.out.cell (p := ⟨b', off' + j * 5 + 2, none⟩) hbw').trans d2
            have d3 := (hbel.out.cell (p := ⟨b', off' + j * 5 + 3, none⟩) hbw').trans d3
            have d4 := (hbel.out.cell (p := ⟨b', off' + j * 5 + 4, none⟩) hbw').trans d4
            have hxF : x ∈ flatK (sdL bs) := by
              obtain ⟨G, hG⟩ := flat_mid he.out hx.out
              rw [hG]
              simp
            have hx3 := HFE.out x hxF
            have HXF := Lib.hid hxF
            have HTK := Lib.hid (g_take ees j x hx.out)
            have HBX := Lib.hid (below_a1 W2 (.cells #[.int .i64 x.f, .int .i64 x.t, .int .i64 x.w, .int .i64 x.i, .int .i64 x.v] 40))
            have hbox2 := Lib.hid (hbox.out.below HBX.out)
            have hbel2 := Lib.hid (g_chain hbel.out HBX.out)
            obtain ⟨l0, x0, x1, xf⟩ := hbox2.out
            have xf0 := xf 0
            have xf1 := xf 1
            clear xf hxF hbox
            rcases Int.lt_or_le x.f N with hxN | hxN
            · have hkey := keyIdx (wf_small hx3.1 (by omega))
              obtain ⟨D, hD, hDm, hD1, hD2⟩ := hmap.out.map
              have HD := Lib.hid (hD.kept (grownBy_of_below HBX.out none) (by simp))
              have HDm := Lib.hid hDm
              have HD1 := Lib.hid hD1
              have HD2 := Lib.hid hD2
              clear hD hDm hD1 hD2 hmap
              go_wp2_with (at_mapUpdate; refine wpList_mapUpdate_own _ rfl _ _ _ 174 rfl 3 145 Try.keyedInt Try.underlying174 rawE w1.heap.size (m + j) D rfl HD.out (by unfold maxLen; omega) _ _ _ rfl rfl hkey _ [] rfl ?_; intro w3 ho3 hg3)
              have hmap3 : Hid (ByIdx w3 w1.heap.size (m + (j + 1)) (flatK ((sdL bs).take k) ++ ees.take (j + 1))) := Lib.hid (by
                rw [HTK.out, ← List.append_assoc]
                exact ByIdx.put ho3 HDm.out HD1.out HD2.out)
              have hbox3 := Lib.hid (hbox2.out.grown hg3 (by intro hh; injection hh with hh; omega))
              have hbel3 := Lib.hid (hbel2.out.grown hg3 hbel2.out.size (fun q hq => by injection hq with hq; omega))
              have hf3 : Hid (∀ y ∈ flatK ((sdL bs).take k) ++ ees.take (j + 1), y.f < N) := Lib.hid (by
                intro y hy
                rw [HTK.out, ← List.append_assoc] at hy
                rcases List.mem_append.1 hy with hy | hy
                · exact hf.out y hy
                · simp at hy; subst hy; exact hxN)
              clear ho3 hg3
              go_wp2
              go_roundw
              case rel => exact ⟨j + 1, by omega, by go_num, by go_num, hf3, hbox3, hmap3, hbel3⟩
              case measure => simp [intOf]; omega
            · have HJ := Lib.hid (join_no1 (N := N) HXF.out (.inr hxN))
              go_wp2
              refine bodyPost_ret (v := .tuple #[.agg #[.int .i64 0, .slice none 0 0], .bool false]) (by simp [results, Try.results102, go_sem, x0, x1]) rfl ?_
              rw [HJ.out, (join_none HJ.out).1, (join_none HJ.out).2]
              exact ⟨none, 0, rfl, World.ownsRow_nil _ _ _ _, by repeat (first | exact hbel2.out | refine Below.setCell ?_ (by simp) _)⟩
          · obtain rfl : j = en := by omega
            have hft : Hid (flatK ((sdL bs).take (k + 1)) = flatK ((sdL bs).take k) ++ ees.take j) := Lib.hid (by rw [show flatK ((sdL bs).take (k + 1)) = flatK ((sdL bs).take k) ++ ees from flat_step he.out, show ees.take j = ees from List.take_of_length_le (by rw [HEL.out]; exact Nat.le_refl _)])
            have hm2 : Hid (m + j = (flatK ((sdL bs).take (k + 1))).length) := Lib.hid (by rw [show flatK ((sdL bs).take (k + 1)) = flatK ((sdL bs).take k) ++ ees from flat_step he.out, List.length_append, ← hm.out, HEL.out])
            go_wp2
            go_roundw
            case rel => exact ⟨k + 1, m + j, by omega, by go_num, rfl, by omega, hm2, Lib.hid (by rw [hft.out]; exact hf.out), hbox, Lib.hid (by rw [hft.out]; exact hmap.out), hbel⟩
            case measure => simp [intOf]; omega
      · obtain rfl : k = n := by omega
        have hFA := flat_all bs (k := k) (by rw [HL.out]; exact Nat.le_refl _)
        rw [hFA] at hm hf hmap
        clear hFA
        have hW0 : wr.heap.size < (wr.alloc (.cells #[.int .i64 N, .slice none 0 0] 58)).heap.size := by simp
        have hrw : w1.heap.size < wr.heap.size := hmap.out.lt
        have G3 := Lib.hid (DBox.new wr (.int .i64 N) (.slice none 0 0) 58)
        have hbox3 := Lib.hid (hbox.out.alloc (.cells #[.int .i64 N, .slice none 0 0] 58))
        have hmap3 := Lib.hid (hmap.out.below (below_a1 wr (.cells #[.int .i64 N, .slice none 0 0] 58)))
        have hbel3 := Lib.hid (g_chain hbel.out (below_a1 wr (.cells #[.int .i64 N, .slice none 0 0] 58)))
        clear hbox hmap hbel HR
        go_wp2
        obtain ⟨gb, hgb⟩ : ∃ gb, gb = wr.heap.size := ⟨_, rfl⟩
        rw [← hgb] at hW0 hrw G3 ⊢
        generalize wr.alloc (.cells #[.int .i64 N, .slice none 0 0] 58) = W0 at *
        clear hgb
        go_loopw [57] (fun i wr => ∃ (q : Nat) (out : List GE) (P : Option Addr) (cP : Nat), q ≤ m ∧ i = .int .i64 q ∧ q ≤ 400 ∧ Hid (out.length = q) ∧ Hid (∀ j : Nat, j < q → ∃ e ∈ flatK (sdL bs), e.i = (j : Int) ∧ out[j]? = some e.ge) ∧ Hid (DBox wr gb (.int .i64 N) (.slice P q cP)) ∧ Hid (wr.ownsRow (gb + 1) 145 3 (.slice P q cP) q (out.flatMap GE.cells)) ∧ Hid (DBox wr w.heap.size (.int .i64 0) (.slice none 0 0)) ∧ Hid (ByIdx wr w1.heap.size m (flatK (sdL bs))) ∧ Hid (Below w.heap.size w wr)) (fun i _ => m - (intOf i).toNat)
        case atStart => exact ⟨0, [], none, 0, Nat.zero_le _, rfl, by omega, Lib.hid rfl, Lib.hid (fun j h => by omega), G3, Lib.hid (World.ownsRow_nil _ _ _ _), hbox3, hmap3, hbel3⟩
        case round =>
          rename World => W2
          clear hbox3 hmap3 hbel3 G3
          obtain ⟨q, out, P, cP, hq, rfl, hq4, hol, hout, hg, hown, hbox, hmap, hbel⟩ := hrel
          by_cases hlq : q < m
          · have hkey := keyIdx (wf_small (x := (q : Int)) (by omega) (by omega))
            obtain ⟨D, hD, hDm, hD1, hD2⟩ := hmap.out.map
            have HD := Lib.hid hD
            by_cases hx : ∃ e ∈ flatK (sdL bs), e.i = (q : Int)
            · obtain ⟨hh, e, he, hei, hat⟩ := hD1 (q : Int) hx
              have HAT := Lib.hid (hat (.held (.agg #[.int .i64 0, .int .i64 0, .int .i64 0])))
              have HH := Lib.hid hh
              have HE := Lib.hid (show e ∈ flatK (sdL bs) ∧ e.i = (q : Int) from ⟨he, hei⟩)
              have he5 := HFE.out e he
              clear hh hat he hx hD1 hD2 hDm hD hei
              obtain ⟨gl, g0, g1, gf⟩ := hg.out
              have gf0 := gf 0
              have gf1 := gf 1
              clear gf
              have W4 := Lib.hid (below_a2 W2 (.cells #[.int .i64 e.f, .int .i64 e.t, .int .i64 e.w] 145) (.cells #[.int .i64 e.f, .int .i64 e.t, .int .i64 e.w] 145))
              have hg4 := Lib.hid (hg.out.below W4.out)
              have hbox4 := Lib.hid (hbox.out.below W4.out)
              have hmap4 := Lib.hid (hmap.out.below W4.out)
              have hbel4 := Lib.hid (g_chain hbel.out W4.out)
              have hown4 := Lib.hid (own_below hown.out W4.out)
              have HFAR : Hid (∀ b, b ≤ gb → (Value.slice P q cP).ownBlock ≠ some b) := Lib.hid (fun b hb e => by have := (hown.out.lt b e).1; omega)
              have hW2 : gb < W2.heap.size := hg.out.lt
              have HON := Lib.hid (e.ge.cells_one)
              go_wp2_with (first
                | (at_builtin; refine wpList_append_any _ rfl (.tmp 70) (.tmp 72) 56 rfl (gb + 1) 145 i0 _ 3 24 Try.underlying56 hi hz0 hz1 hz2 rfl (by omega) _ q (out.flatMap GE.cells) rfl hown4.out (W2.heap.size + 1 + 1) (some ⟨W2.heap.size + 1, 0, none⟩) 1 1 (GE.cells e.ge) rfl (three_reads _ _ _ _ _ _ (by simp)) HON.out (by simp only [maxLen]; omega) (by omega) (by simp; omega) ?_; intro v3 w3 hown3 hg3 hat3; obtain ⟨P3, c3, rfl, -⟩ := own_formG hown3; have hg5 := Lib.hid (hg4.out.grown hg3 (HFAR.out gb (Nat.le_refl _))); obtain ⟨gl5, g50, g51, gf5⟩ := hg5.out; have g5f := gf5 1; clear gf5)
                | (at_lookup; refine lookup_known _ rfl _ _ 174 rfl 3 145 Try.keyedInt Try.underlying174 (zeroEdge _) w1.heap.size m D rfl HD.out _ _ rfl hkey (.agg #[.int .i64 e.f, .int .i64 e.t, .int .i64 e.w]) true HAT.out HH.out ?_))
              have hbox5 := Lib.hid ((hbox4.out.grown hg3 (HFAR.out _ (by omega))).far (p := ⟨gb, 1, none⟩) (by show w.heap.size ≠ gb; omega) (.slice P3 (q + 1) c3))
              have hgs : w3.grownBy (w3.setCell ⟨gb, 1, none⟩ (.slice P3 (q + 1) c3)) (some gb) := ⟨rfl, rfl, rfl, by simp, fun i _ hi => Below.heap_setCell w3 ⟨gb, 1, none⟩ (.slice P3 (q + 1) c3) i (fun h => hi (by rw [h]))⟩
              have hmap5 := Lib.hid ((hmap4.out.kept hg3 (HFAR.out _ (by omega)).symm).kept hgs (by intro h; injection h with h; omega))
              have hbel5 := Lib.hid ((hbel4.out.grown hg3 hbel4.out.size (fun j hj => by have := (hown.out.lt j hj).1; omega)).setCell (p := ⟨gb, 1, none⟩) (by show w.heap.size ≤ gb; omega) (.slice P3 (q + 1) c3))
              have hg6 := Lib.hid (hg5.out.set1 (.slice P3 (q + 1) c3))
              have hown6 := Lib.hid (own_lowG hown3 (p := ⟨gb, 1, none⟩) (by show gb < gb + 1; omega) (.slice P3 (q + 1) c3))
              clear hown3 hg3 hat3 g50 g51 g5f hgs
              go_wp2
              go_roundw
              case rel => exact ⟨q + 1, out ++ [e.ge], P3, c3, by omega, by go_num, by have := HE.out.2; omega, Lib.hid (by rw [List.length_append, hol.out]; rfl), Lib.hid (by
                intro j hj
                rcases Nat.lt_or_ge j q with h1 | h1
                · obtain ⟨y, hy1, hy2, hy3⟩ := hout.out j h1
                  exact ⟨y, hy1, hy2, by rw [List.getElem?_append_left (by rw [hol.out]; exact h1)]; exact hy3⟩
                · obtain rfl : j = q := by omega
                  exact ⟨e, HE.out.1, HE.out.2, by rw [List.getElem?_append_right (by rw [hol.out]; exact Nat.le_refl _), hol.out, Nat.sub_self]; rfl⟩), hg6, Lib.hid (by rw [List.flatMap_append]; simpa using hown6.out), hbox5, hmap5, hbel5⟩
              case measure => simp [intOf]; omega
            · obtain ⟨hh, hat⟩ := hD2 (q : Int) hx
              have HAT := Lib.hid (hat (.held (.agg #[.int .i64 0, .int .i64 0, .int .i64 0])))
              have HH := Lib.hid hh
              have HJ := Lib.hid (join_no2 HC.out (j := q) (by rw [← hm.out]; exact hlq) hx)
              clear hh hat hx hD1 hD2 hDm hD
              have hbox4 := Lib.hid (hbox.out.alloc (.cells #[.int .i64 0, .int .i64 0, .int .i64 0] 145))
              have hbel4 := Lib.hid (g_chain hbel.out (below_a1 W2 (.cells #[.int .i64 0, .int .i64 0, .int .i64 0] 145)))
              obtain ⟨l0, x0, x1, xf⟩ := hbox4.out
              have xf0 := xf 0
              have xf1 := xf 1
              clear xf
              go_wp2_with (at_lookup; refine lookup_known _ rfl _ _ 174 rfl 3 145 Try.keyedInt Try.underlying174 (zeroEdge _) w1.heap.size m D rfl HD.out _ _ rfl hkey (.agg #[.int .i64 0, .int .i64 0, .int .i64 0]) false HAT.out HH.out ?_)
              refine bodyPost_ret (v := .tuple #[.agg #[.int .i64 0, .slice none 0 0], .bool false]) (by simp [results, Try.results102, go_sem, x0, x1]) rfl ?_
              rw [HJ.out, (join_none HJ.out).1, (join_none HJ.out).2]
              exact ⟨none, 0, rfl, World.ownsRow_nil _ _ _ _, by repeat (first | exact hbel4.out | refine Below.setCell ?_ (by simp) _)⟩
          · obtain rfl : q = m := by omega
            obtain ⟨HJ1, HJ2⟩ := join_yes (N := N) (out := out) HC.out hf.out (by rw [hol.out, hm.out]) (fun j hj => hout.out j (by rw [hm.out]; exact hj))
            have HJ := Lib.hid HJ1
            have HJ3 := Lib.hid HJ2
            clear HJ1 HJ2
            obtain ⟨l0, x0, x1, xf⟩ := hbox.out
            have xf0 := xf 0
            have xf1 := xf 1
            obtain ⟨gl, g0, g1, gf⟩ := hg.out
            clear xf gf
            go_wp2
            refine bodyPost_ret (v := .tuple #[.agg #[.int .i64 N, .slice P q cP], .bool true]) (by simp [results, Try.results102, go_sem, x0, x1]) rfl ?_
            rw [HJ.out, (join_some HJ.out).1, (join_some HJ.out).2, ← HJ3.out]
            refine ⟨P, cP, by rw [hol.out], ?_, by repeat (first | exact hbel.out | refine Below.setCell ?_ (by simp) _)⟩
            rw [hol.out]
            exact own_monoG (own_lowG (own_lowG hown.out (by show w.heap.size < gb + 1; omega) _) (by show w.heap.size < gb + 1; omega) _) (by omega)
end Go.Proofs.Ytpgnappddddlpaa
namespace Go.Proofs.Ytpgnappddddlpaa
open Go.RowKit
set_option linter.unusedVariables false

theorem endsAt_any (x lo hi : Int) (A : Option Addr) (n c : Nat) (w : World) :
    Calls Try.prog 100 #[.int .i64 x, .agg #[.int .i64 lo, .int .i64 hi, .slice A n c]] w (GTell w (decide (hi = x))) := by
  go_enter Try.func100, Try.ntmps100
  go_wp2
  go_ret
  exact ⟨g_bool (by rw [Bool.eq_iff_iff]; simp), below_a1 _ _⟩
theorem badEdge (e : KE) (w : World) : Calls Try.prog 141 #[.agg #[.int .i64 e.f, .int .i64 e.t, .int .i64 e.w, .int .i64 e.i, .int .i64 e.v]] w (GTell w (!valB e.v)) := by
  have C := Lib.hid (fun W => implIsValue e.v W)
  generalize valB e.v = b at C ⊢
  go_enter Try.func141, Try.ntmps141
  go_wp2_with fail
  refine (C.out _).mono ?_
  rintro e w1 ⟨rfl, rfl⟩
  go_wp2
  go_ret
  exact ⟨rfl, below_a1 _ _⟩
theorem fars_no {es : List KE} {k : Nat} {e : KE} (h : es[k]? = some e) (hx : valB e.v = false) : es.all (fun e => valB e.v) = false := by
  rw [List.all_eq_false]
  exact ⟨e, List.mem_of_getElem? h, by simp [hx]⟩
theorem fars_step {es : List KE} {k : Nat} {e : KE} (h : es[k]? = some e) (ha : ∀ y ∈ es.take k, valB y.v = true) (hx : valB e.v = true) : ∀ y ∈ es.take (k + 1), valB y.v = true := by
  rw [g_take es k e h]
  intro y hy
  rcases List.mem_append.1 hy with hy | hy
  · exact ha y hy
  · rw [List.mem_singleton.1 hy]; exact hx
theorem fars_yes {es : List KE} (ha : ∀ y ∈ es.take es.length, valB y.v = true) : es.all (fun e => valB e.v) = true := by
  rw [List.take_length] at ha
  rw [List.all_eq_true]
  exact ha
set_option maxRecDepth 10000 in
set_option maxHeartbeats 1000000 in
theorem indexFar (A : Option Addr) (n c : Nat) (es : List KE) (w : World) (hr : SlK w A n es) (hn : n ≤ 1048576) :
    Calls Try.prog 158 #[.slice A n c, .func (.func 141) #[] #[]] w fun e w' => ∃ z : Int, e = .returned (.int .i64 z) ∧ decide (0 ≤ z) = !(es.all (fun e => valB e.v)) ∧ Below w.heap.size w w' := by
  have HR := Lib.hid hr
  have HL := Lib.hid hr.len
  clear hr
  have CB := Lib.hid (fun x W => badEdge x W)
  go_enter Try.func158, Try.ntmps158
  go_wp2
  go_loopw [8] (fun i wr => ∃ k : Nat, k ≤ n ∧ i = .int .i64 (k : Int) ∧ Hid (∀ y ∈ es.take k, valB y.v = true) ∧ Hid (Below w.heap.size w wr)) (fun i _ => n - (intOf i).toNat)
  case atStart => exact ⟨0, Nat.zero_le _, rfl, Lib.hid (by simp), Lib.hid (Below.refl _ _)⟩
  case round =>
    obtain ⟨k, hk, rfl, hok, hbel⟩ := hrel
    by_cases hlt : k < n
    · obtain ⟨b, off, x, rfl, hbw, hx, c0, c1, c2, c3, c4⟩ := HR.out.at_ hlt
      have c0 := (hbel.out.cell (p := ⟨b, off + k * 5, none⟩) hbw).trans c0
      have c1 := (hbel.out.cell (p := ⟨b, off + k * 5 + 1, none⟩) hbw).trans c1
      have c2 := (hbel.out.cell (p := ⟨b, off + k * 5 + 2, none⟩) hbw).trans c2
      have c3 := (hbel.out.cell (p := ⟨b, off + k * 5 + 3, none⟩) hbw).trans c3
      have c4 := (hbel.out.cell (p := ⟨b, off + k * 5 + 4, none⟩) hbw).trans c4
      have C := Lib.hid (fun W => CB.out x W)
      cases hv : valB x.v with
      | true =>
        rw [hv] at C
        have HK := Lib.hid (fars_step hx.out hok.out hv)
        clear hv hok
        go_wp2_with fail
        refine (C.out _).mono ?_
        rintro e w1 ⟨rfl, hb1⟩
        have HB := Lib.hid (g_chain hbel.out hb1)
        clear hb1 c0 c1 c2 c3 c4
        go_wp2
        go_roundw
        case rel => exact ⟨k + 1, by omega, by go_num, HK, HB⟩
        case measure => simp [intOf]; omega
      | false =>
        rw [hv] at C
        have HK := Lib.hid (fars_no hx.out hv)
        clear hv hok
        go_wp2_with fail
        refine (C.out _).mono ?_
        rintro e w1 ⟨rfl, hb1⟩
        have HB := Lib.hid (g_chain hbel.out hb1)
        clear hb1 c0 c1 c2 c3 c4
        go_wp2
        go_ret
        exact ⟨_, rfl, by rw [HK.out]; simp, HB.out⟩
    · obtain rfl : k = n := by omega
      have HK := Lib.hid (fars_yes (es := es) (by rw [HL.out]; exact hok.out))
      go_wp2
      go_ret
      exact ⟨_, rfl, by rw [HK.out]; simp, hbel.out⟩
theorem containsFar (A : Option Addr) (n c : Nat) (es : List KE) (w : World) (hr : SlK w A n es) (hn : n ≤ 1048576) :
    Calls Try.prog 140 #[.slice A n c, .func (.func 141) #[] #[]] w (GTell w (!(es.all (fun e => valB e.v)))) := by
  have C := Lib.hid (indexFar A n c es w hr hn)
  clear hr
  generalize es.all (fun e => valB e.v) = b at C ⊢
  go_enter Try.func140, Try.ntmps140
  go_wp2_with fail
  refine C.out.mono ?_
  rintro e w1 ⟨z, rfl, hz, hb⟩
  have HB := Lib.hid hb
  clear hb
  go_wp2
  go_ret
  exact ⟨rfl, HB.out⟩
theorem hasValues_any (lo hi : Int) (A : Option Addr) (n c : Nat) (es : List KE) (w : World) (hr : SlK w A n es) (hn : n ≤ 1048576) :
    Calls Try.prog 101 #[.agg #[.int .i64 lo, .int .i64 hi, .slice A n c]] w (GTell w (farS (lo, hi, es))) := by
  have C := Lib.hid (fun W (h : Below w.heap.size w W) => containsFar A n c es W (hr.below h) hn)
  have HA := Lib.hid (below_a1 w (.cells #[.int .i64 lo, .int .i64 hi, .slice A n c] 85))
  unfold farS
  simp only
  clear hr
  generalize es.all (fun e => valB e.v) = b at C ⊢
  have hb2 : (!!b) = b := by simp
  go_enter Try.func101, Try.ntmps101
  go_wp2_with fail
  refine (C.out _ HA.out).mono ?_
  rintro e w1 ⟨rfl, hb⟩
  have HB := Lib.hid (g_chain HA.out hb)
  clear hb
  go_wp2
  go_ret
  exact ⟨g_bool (by simp), HB.out⟩
/-- The ends and those of the shards. -/
theorem ends_eq {E : List Int} {l : List SD} (hl : E.length = l.length) (h : E.take l.length = (hiL l).take l.length) : E = hiL l := by
  rw [← hl, List.take_length, hl, List.take_of_length_le (by rw [hiL_len]; exact Nat.le_refl _)] at h
  exact h
theorem ends_ne {E : List Int} {l : List SD} {k : Nat} {x : Int} {s : SD} (h1 : E[k]? = some x) (h2 : l[k]? = some s) (h : s.2.1 ≠ x) : E ≠ hiL l := by
  intro e
  rw [e, hiL_get h2] at h1
  injection h1 with h1
  exact h h1
theorem sdL_get {bs : List HE} {k : Nat} {e : HE} (h : bs[k]? = some e) : (sdL bs)[k]? = some (e.lo, e.hi, e.es) := by
  unfold sdL
  rw [List.getElem?_map, h]
  rfl
set_option maxRecDepth 10000 in
set_option maxHeartbeats 1000000 in
theorem equalEnds (A : Option Addr) (n c : Nat) (E : List Int) (B : Option Addr) (m d : Nat) (bs : List HE) (w : World) (hA : SlI w A n E) (hB : SlH w B m bs) (hn : n ≤ 1048576) (hm : m ≤ 1048576) :
    Calls Try.prog 99 #[.slice A n c, .slice B m d, .func (.func 100) #[] #[]] w (GTell w (decide (E = hiL (sdL bs)))) := by
  have HA := Lib.hid hA
  have HB := Lib.hid hB
  have HLA := Lib.hid hA.len
  have HLB := Lib.hid hB.len
  clear hA hB
  by_cases hnm : n = m
  · subst hnm
    go_enter Try.func99, Try.ntmps99
    go_wp2
    go_loopw [7, 8, 17] (fun _ _ i wr => ∃ k : Nat, k ≤ n ∧ i = .int .i64 (k : Int) ∧ Hid (E.take k = (hiL (sdL bs)).take k) ∧ Hid (Below w.heap.size w wr)) (fun _ _ i _ => n - (intOf i).toNat)
    case atStart => exact ⟨0, Nat.zero_le _, rfl, Lib.hid (by simp), Lib.hid (Below.refl _ _)⟩
    case round =>
      obtain ⟨k, hk, rfl, htk, hbel⟩ := hrel
      by_cases hlt : k < n
      · obtain ⟨b, off, x, rfl, hbw, hx, d0⟩ := HA.out.at_ hlt
        obtain ⟨b', off', e, rfl, hbw', he, hok, c0, c1, c2⟩ := HB.out.at_ hlt
        have d0 := (hbel.out.cell (p := ⟨b, off + k, none⟩) hbw).trans d0
        have c0 := (hbel.out.cell (p := ⟨b', off' + k * 3, none⟩) hbw').trans c0
        have c1 := (hbel.out.cell (p := ⟨b', off' + k * 3 + 1, none⟩) hbw').trans c1
        have c2 := (hbel.out.cell (p := ⟨b', off' + k * 3 + 2, none⟩) hbw').trans c2
        have C := Lib.hid (fun W => endsAt_any x e.lo e.hi e.A e.n e.c W)
        have H1 := Lib.hid (g_chain hbel.out (below_a1 wr (.cells #[.int .i64 e.lo, .int .i64 e.hi, .slice e.A e.n e.c] 85)))
        clear hok
        by_cases hq : e.hi = x
        · rw [decide_eq_true hq] at C
          have HK : Hid (E.take (k + 1) = (hiL (sdL bs)).take (k + 1)) := Lib.hid (by rw [g_take E k x hx.out, g_take (hiL (sdL bs)) k x (by rw [hiL_get (sdL_get he.out)]; simp [hq]), htk.out])
          clear hq htk
          go_wp2_with fail
          refine (C.out _).mono ?_
          rintro e1 w1 ⟨rfl, hb1⟩
          have HB1 := Lib.hid (g_chain H1.out hb1)
          clear hb1 c0 c1 c2 d0
          go_wp2
          go_roundw
          case rel => exact ⟨k + 1, by omega, by go_num, HK, HB1⟩
          case measure => simp [intOf]; omega
        · rw [decide_eq_false hq] at C
          have HK := Lib.hid (decide_eq_false (ends_ne hx.out (sdL_get he.out) hq))
          clear hq htk
          go_wp2_with fail
          refine (C.out _).mono ?_
          rintro e1 w1 ⟨rfl, hb1⟩
          have HB1 := Lib.hid (g_chain H1.out hb1)
          clear hb1 c0 c1 c2 d0
          go_wp2
          go_ret
          rw [HK.out]
          exact ⟨rfl, HB1.out⟩
      · obtain rfl : k = n := by omega
        have HK := Lib.hid (decide_eq_true (ends_eq (E := E) (l := sdL bs) (by rw [HLA.out, sdL_len, HLB.out]) (by rw [sdL_len, HLB.out]; exact htk.out)))
        go_wp2
        go_ret
        rw [HK.out]
        exact ⟨rfl, hbel.out⟩
  · have HK : Hid (decide (E = hiL (sdL bs)) = false) := Lib.hid (decide_eq_false (fun e => hnm (by rw [← HLA.out, e, hiL_len, sdL_len, HLB.out])))
    have hq : ((n : Int) == (m : Int)) = false := by simp; omega
    go_enter Try.func99, Try.ntmps99
    go_wp2
    go_ret
    rw [HK.out]
    exact ⟨rfl, Below.refl _ _⟩
/-- What a farm's box and a graph's box stand for while graphOf walks. -/
theorem zeroG_cells {b : Nat} {t : TypeId} (w : World) (h : Blk w b #[.int .i64 0, .slice none 0 0] t) : w.cell? ⟨b, 0, none⟩ = some (.int .i64 0) ∧ w.cell? ⟨b, 1, none⟩ = some (.slice none 0 0) ∧ w.frozen? ⟨b, 0, none⟩ = false ∧ w.frozen? ⟨b, 1, none⟩ = false := ⟨h.cell rfl, h.cell rfl, h.frozen 0, h.frozen 1⟩
set_option maxRecDepth 20000 in
set_option maxHeartbeats 4000000 in
theorem implGraphOf (N : Int) (A : Option Addr) (n c : Nat) (E : List Int) (B : Option Addr) (m d : Nat) (bs : List HE) (w : World) (hA : SlI w A n E) (hB : SlH w B m bs) (hn : n ≤ 1048576) (hm : m ≤ 1048576) (hs : ∀ e ∈ bs, e.n ≤ 1048576) :
    Calls Try.prog 55 #[.agg #[.int .i64 N, .slice A n c, .slice B m d]] w (MadeJ w (farmN N E (sdL bs)) (farmG N E (sdL bs)) (farmB N E (sdL bs))) := by
  have CQ := Lib.hid (fun W (h : Below w.heap.size w W) => equalEnds A n c E B m d bs W (hA.below h) (hB.below h) hn hm)
  have CJ := Lib.hid (fun W (h : Below w.heap.size w W) => implJoined N B m d bs W (hB.below h) hm hs)
  have HB := Lib.hid hB
  have HL := Lib.hid hB.len
  have HS := Lib.hid hs
  have B0 := Lib.hid ((Blk.new w #[.int .i64 N, .slice A n c, .slice B m d] 26).alloc (.cells #[.int .i64 0, .slice none 0 0] 58))
  have Z0 : Hid (Blk ((w.alloc (.cells #[.int .i64 N, .slice A n c, .slice B m d] 26)).alloc (.cells #[.int .i64 0, .slice none 0 0] 58)) (w.heap.size + 1) #[.int .i64 0, .slice none 0 0] 58) := Lib.hid (by have h := Blk.new (w.alloc (.cells #[.int .i64 N, .slice A n c, .slice B m d] 26)) #[.int .i64 0, .slice none 0 0] 58; simpa using h)
  have H0 := Lib.hid (below_a2 w (.cells #[.int .i64 N, .slice A n c, .slice B m d] 26) (.cells #[.int .i64 0, .slice none 0 0] 58))
  clear hA hB hs
  by_cases hq : E = hiL (sdL bs)
  · rw [decide_eq_true hq] at CQ
    have HQ := Lib.hid hq
    clear hq
    go_enter Try.func55, Try.ntmps55
    go_wp2_with fail
    refine (CQ.out _ H0.out).mono ?_
    rintro e w1 ⟨rfl, hb⟩
    have H1 := Lib.hid (g_chain H0.out hb)
    have B1 := Lib.hid (B0.out.below hb)
    have Z1 := Lib.hid (Z0.out.below hb)
    clear hb B0 Z0 H0
    have x0 := B1.out.cell (i := 0) rfl
    have x1 := B1.out.cell (i := 1) rfl
    have x2 := B1.out.cell (i := 2) rfl
    go_wp2
    clear x0 x1 x2
    go_loopw [5, 16] (fun _ i wr => ∃ k : Nat, k ≤ m ∧ i = .int .i64 (k : Int) ∧ Hid (∀ s ∈ (sdL bs).take k, farS s = true) ∧ Hid (Blk wr w.heap.size #[.int .i64 N, .slice A n c, .slice B m d] 26) ∧ Hid (Blk wr (w.heap.size + 1) #[.int .i64 0, .slice none 0 0] 58) ∧ Hid (Below w.heap.size w wr)) (fun _ i _ => m - (intOf i).toNat)
    case atStart => exact ⟨0, Nat.zero_le _, rfl, Lib.hid (by simp), B1, Z1, H1⟩
    case round =>
      clear B1 Z1 H1
      obtain ⟨k, hk, rfl, hfar, hbx, hbz, hbel⟩ := hrel
      by_cases hlt : k < m
      · obtain ⟨b, off, e, rfl, hbw, he, hok, c0, c1, c2⟩ := HB.out.at_ hlt
        have c0 := (hbel.out.cell (p := ⟨b, off + k * 3, none⟩) hbw).trans c0
        have c1 := (hbel.out.cell (p := ⟨b, off + k * 3 + 1, none⟩) hbw).trans c1
        have c2 := (hbel.out.cell (p := ⟨b, off + k * 3 + 2, none⟩) hbw).trans c2
        have C := Lib.hid (fun W (h : Below w.heap.size w W) => hasValues_any e.lo e.hi e.A e.n e.c e.es W (hok.out.rd.below h) (HS.out e (List.mem_of_getElem? he.out)))
        have HA := Lib.hid (below_a1 wr (.cells #[.int .i64 e.lo, .int .i64 e.hi, .slice e.A e.n e.c] 85))
        have B2 := Lib.hid (hbx.out.below HA.out)
        have Z2 := Lib.hid (hbz.out.below HA.out)
        have H2 := Lib.hid (g_chain hbel.out HA.out)
        clear hok hbx hbz
        cases hv : farS (e.lo, e.hi, e.es) with
        | true =>
          rw [hv] at C
          have HK : Hid (∀ s ∈ (sdL bs).take (k + 1), farS s = true) := Lib.hid (by
            rw [sdL_take he.out]
            intro s hs2
            rcases List.mem_append.1 hs2 with hs2 | hs2
            · exact hfar.out s hs2
            · rw [List.mem_singleton.1 hs2]; exact hv)
          clear hv hfar
          go_wp2_with fail
          refine (C.out _ H2.out).mono ?_
          rintro e1 w2 ⟨rfl, hb1⟩
          have B3 := Lib.hid (B2.out.below hb1)
          have Z3 := Lib.hid (Z2.out.below hb1)
          have H3 := Lib.hid (g_chain H2.out hb1)
          clear hb1 c0 c1 c2 B2 Z2 H2 HA
          go_wp2
          go_roundw
          case rel => exact ⟨k + 1, by omega, by go_num, HK, B3, Z3, H3⟩
          case measure => simp [intOf]; omega
        | false =>
          rw [hv] at C
          have HF := Lib.hid (farm_far (N := N) (E := E) (List.mem_of_getElem? (sdL_get he.out)) hv)
          clear hv hfar
          go_wp2_with fail
          refine (C.out _ H2.out).mono ?_
          rintro e1 w2 ⟨rfl, hb1⟩
          have Z3 := Lib.hid (Z2.out.below hb1)
          have H3 := Lib.hid (g_chain H2.out hb1)
          clear hb1 c0 c1 c2 B2 Z2 H2 HA
          obtain ⟨z0, z1, f0, f1⟩ := zeroG_cells _ Z3.out
          go_wp2
          refine bodyPost_ret (v := .tuple #[.agg #[.int .i64 0, .slice none 0 0], .bool false]) (by simp [results, Try.results55, go_sem, z0, z1]) rfl ?_
          rw [HF.out, (farmG_no HF.out).1, (farmG_no HF.out).2]
          exact ⟨none, 0, rfl, World.ownsRow_nil _ _ _ _, by repeat (first | exact H3.out | refine Below.setCell ?_ (by simp) _)⟩
      · obtain rfl : k = m := by omega
        have HJ : Hid (farmB N E (sdL bs) = joinB N (sdL bs)) := Lib.hid (farm_join HQ.out (fun s hs2 => hfar.out s (by rw [List.take_of_length_le (by rw [sdL_len, HL.out]; exact Nat.le_refl _)]; exact hs2)))
        have x0 := hbx.out.cell (i := 0) rfl
        have x2 := hbx.out.cell (i := 2) rfl
        clear hfar
        go_wp2_with fail
        refine (CJ.out _ hbel.out).mono ?_
        rintro e1 w2 ⟨A1, c1, rfl, ho, hb1⟩
        have Z3 := Lib.hid (hbz.out.below hb1)
        have H3 := Lib.hid (g_chain hbel.out hb1)
        have HO := Lib.hid (own_monoG ho hbel.out.size)
        have hzl : w.heap.size + 1 < w2.heap.size := Blk.lt Z3.out
        have HFAR := Lib.hid (fun (e : (Value.slice A1 (joinE N (sdL bs)).length c1).ownBlock = some (w.heap.size + 1)) => by have h1 := (ho.lt _ e).1; have h2 := Blk.lt hbz.out; show False; omega)
        clear hb1 ho x0 x2
        obtain ⟨z0, z1, f0, f1⟩ := zeroG_cells _ Z3.out
        go_wp2
        refine bodyPost_ret (v := .tuple #[.agg #[.int .i64 (joinN N (sdL bs)), .slice A1 (joinE N (sdL bs)).length c1], .bool (joinB N (sdL bs))]) (by simp [results, Try.results55, go_sem, z0, z1]) rfl ?_
        rw [HJ.out, (farmG_join HJ.out).1, (farmG_join HJ.out).2]
        refine ⟨A1, c1, rfl, ?_, by repeat (first | exact H3.out | refine Below.setCell ?_ (by simp) _)⟩
        have hap : ∀ (W : World) (i : Nat) (u : Value), W.ownsRow w.heap.size 145 3 (.slice A1 (joinE N (sdL bs)).length c1) (joinE N (sdL bs)).length ((joinE N (sdL bs)).flatMap GE.cells) → (W.setCell ⟨w.heap.size + 1, i, none⟩ u).ownsRow w.heap.size 145 3 (.slice A1 (joinE N (sdL bs)).length c1) (joinE N (sdL bs)).length ((joinE N (sdL bs)).flatMap GE.cells) := fun W i u h => h.kept (row := some (w.heap.size + 1)) ⟨rfl, rfl, rfl, by simp, fun q _ hq => Below.heap_setCell W ⟨w.heap.size + 1, i, none⟩ u q (fun e => hq (by rw [show q = w.heap.size + 1 from e]))⟩ (.inr HFAR.out)
        exact hap _ _ _ (hap _ _ _ HO.out)
  · rw [decide_eq_false hq] at CQ
    have HF := Lib.hid (farm_hi (N := N) hq)
    clear hq
    go_enter Try.func55, Try.ntmps55
    go_wp2_with fail
    refine (CQ.out _ H0.out).mono ?_
    rintro e w1 ⟨rfl, hb⟩
    have H1 := Lib.hid (g_chain H0.out hb)
    have Z1 := Lib.hid (Z0.out.below hb)
    clear hb B0 Z0 H0
    obtain ⟨z0, z1, f0, f1⟩ := zeroG_cells _ Z1.out
    go_wp2
    refine bodyPost_ret (v := .tuple #[.agg #[.int .i64 0, .slice none 0 0], .bool false]) (by simp [results, Try.results55, go_sem, z0, z1]) rfl ?_
    rw [HF.out, (farmG_no HF.out).1, (farmG_no HF.out).2]
    exact ⟨none, 0, rfl, World.ownsRow_nil _ _ _ _, by repeat (first | exact H1.out | refine Below.setCell ?_ (by simp) _)⟩
/-- The program's FarmOk. -/
theorem implFarmOk (N : Int) (A : Option Addr) (n c : Nat) (E : List Int) (B : Option Addr) (m d : Nat) (bs : List HE) (w : World) (hA : SlI w A n E) (hB : SlH w B m bs) (hn : n ≤ 1048576) (hm : m ≤ 1048576) (hs : ∀ e ∈ bs, e.n ≤ 1048576) :
    Calls Try.prog 18 #[.agg #[.int .i64 N, .slice A n c, .slice B m d]] w (GTell w (farmB N E (sdL bs))) := by
  have C := Lib.hid (fun W (h : Below w.heap.size w W) => implGraphOf N A n c E B m d bs W (hA.below h) (hB.below h) hn hm hs)
  have H0 := Lib.hid (below_a1 w (.cells #[.int .i64 N, .slice A n c, .slice B m d] 26))
  clear hA hB hs
  generalize farmB N E (sdL bs) = rb at C ⊢
  generalize farmN N E (sdL bs) = rn at C
  generalize farmG N E (sdL bs) = rg at C
  go_enter Try.func18, Try.ntmps18
  go_wp2_with fail
  refine (C.out _ H0.out).mono ?_
  rintro e w1 ⟨A1, c1, rfl, ho, hb⟩
  have H1 := Lib.hid (g_chain H0.out hb)
  clear ho hb
  go_wp2
  go_ret
  exact ⟨rfl, g_chain H1.out (below_a1 _ _)⟩
/-- The program's FarmGraph. -/
theorem implFarmGraph (N : Int) (A : Option Addr) (n c : Nat) (E : List Int) (B : Option Addr) (m d : Nat) (bs : List HE) (w : World) (hA : SlI w A n E) (hB : SlH w B m bs) (hn : n ≤ 1048576) (hm : m ≤ 1048576) (hs : ∀ e ∈ bs, e.n ≤ 1048576) :
    Calls Try.prog 35 #[.agg #[.int .i64 N, .slice A n c, .slice B m d]] w (MadeGr w (farmN N E (sdL bs)) (farmG N E (sdL bs))) := by
  have C := Lib.hid (fun W (h : Below w.heap.size w W) => implGraphOf N A n c E B m d bs W (hA.below h) (hB.below h) hn hm hs)
  have H0 := Lib.hid (below_a2 w (.cells #[.int .i64 N, .slice A n c, .slice B m d] 26) (.cells #[.int .i64 0, .slice none 0 0] 58))
  have Z0 : Hid (Blk ((w.alloc (.cells #[.int .i64 N, .slice A n c, .slice B m d] 26)).alloc (.cells #[.int .i64 0, .slice none 0 0] 58)) (w.heap.size + 1) #[.int .i64 0, .slice none 0 0] 58) := Lib.hid (by have h := Blk.new (w.alloc (.cells #[.int .i64 N, .slice A n c, .slice B m d] 26)) #[.int .i64 0, .slice none 0 0] 58; simpa using h)
  clear hA hB hs
  generalize farmB N E (sdL bs) = rb at C
  generalize farmN N E (sdL bs) = rn at C ⊢
  generalize farmG N E (sdL bs) = rg at C ⊢
  go_enter Try.func35, Try.ntmps35
  go_wp2_with fail
  refine (C.out _ H0.out).mono ?_
  rintro e w1 ⟨A1, c1, rfl, ho, hb⟩
  have Z1 := Lib.hid (Z0.out.below hb)
  have hzl : w.heap.size + 1 < w1.heap.size := Blk.lt Z1.out
  have H1 := Lib.hid (g_chain H0.out hb)
  have HO := Lib.hid (own_monoG ho H0.out.size)
  have HFAR := Lib.hid (fun (e : (Value.slice A1 rg.length c1).ownBlock = some (w.heap.size + 1)) => by have h1 := (ho.lt _ e).1; have h2 := Blk.lt Z0.out; show False; omega)
  clear hb ho Z0
  obtain ⟨z0, z1, f0, f1⟩ := zeroG_cells _ Z1.out
  go_wp2
  refine bodyPost_ret (v := .agg #[.int .i64 rn, .slice A1 rg.length c1]) (by simp [results, Try.results35, go_sem, z0, z1, hzl]) rfl ?_
  refine ⟨A1, c1, rfl, ?_, by repeat (first | exact H1.out | refine Below.setCell ?_ (by simp) _ | refine g_chain ?_ (below_a1 _ _))⟩
  have hap : ∀ (W : World) (i : Nat) (u : Value), W.ownsRow w.heap.size 145 3 (.slice A1 rg.length c1) rg.length (rg.flatMap GE.cells) → (W.setCell ⟨w.heap.size + 1, i, none⟩ u).ownsRow w.heap.size 145 3 (.slice A1 rg.length c1) rg.length (rg.flatMap GE.cells) := fun W i u h => h.kept (row := some (w.heap.size + 1)) ⟨rfl, rfl, rfl, by simp, fun q _ hq => Below.heap_setCell W ⟨w.heap.size + 1, i, none⟩ u q (fun e => hq (by rw [show q = w.heap.size + 1 from e]))⟩ (.inr HFAR.out)
  first | exact hap _ _ _ (hap _ _ _ HO.out) | exact own_below (hap _ _ _ (hap _ _ _ HO.out)) (below_a1 _ _)
end Go.Proofs.Ytpgnappddddlpaa
namespace Go.Proofs.Ytpgnappddddlpaa
open Go.RowKit

set_option maxRecDepth 10000 in
set_option maxHeartbeats 1000000 in
theorem specEndsOk (N : Int) (A : Option Addr) (n c : Nat) (es : List Int) (w : World) (hr : SlI w A n es) (hn : n ≤ 1048576) :
    Calls Try.prog 65 #[.int .i64 N, .slice A n c] w (GTell w (endsB N es)) := by
  have HR := Lib.hid hr
  have HL := Lib.hid hr.len
  clear hr
  go_enter Try.func65, Try.ntmps65
  go_wp2
  go_loop [5, 10] (fun v i => ∃ k : Nat, k ≤ n ∧ i = .int .i64 k ∧ v = .int .i64 (lastE 0 (es.take k)) ∧ Hid (ascB 0 (es.take k) = true)) (fun _ i => n - (intOf i).toNat)
  case atStart => exact ⟨0, Nat.zero_le _, rfl, rfl, Lib.hid rfl⟩
  case round =>
    obtain ⟨k, hk, rfl, rfl, hasc⟩ := hrel
    by_cases hlt : k < n
    · obtain ⟨b, off, x, rfl, hbw, hx, hc⟩ := HR.out.at_ hlt
      have HS := Lib.hid (asc_step hx.out hasc.out)
      have HT := Lib.hid (last_step (l := 0) hx.out)
      have HN := Lib.hid (fun h => ends_no (n := N) rfl hx.out hasc.out h)
      clear hasc hx
      generalize lastE 0 (es.take k) = q at HS HN ⊢
      by_cases hq : x ≤ q
      · have HV := Lib.hid (HN.out hq)
        clear HN HS HT
        go_wp2
        go_ret
        exact ⟨by rw [HV.out] <;> rfl, Below.refl _ _⟩
      · have HS2 : Hid (ascB 0 (es.take (k + 1)) = true) := Lib.hid (by rw [HS.out]; simp; omega)
        clear HN HS
        go_wp2
        go_round
        case rel => exact ⟨k + 1, by omega, by go_num, by rw [HT.out], HS2⟩
        case measure => simp [intOf]; omega
    · obtain rfl : k = n := by omega
      have he : es.take k = es := List.take_of_length_le (by rw [HL.out]; exact Nat.le_refl _)
      rw [he] at hasc ⊢
      have HV := Lib.hid (ends_yes (n := N) hasc.out)
      clear hasc he
      generalize lastE 0 es = q at HV ⊢
      by_cases h1 : 0 ≤ N
      · by_cases h2 : N ≤ 150
        · by_cases h3 : q = N
          · have HW : Hid (endsB N es = true) := Lib.hid (by rw [HV.out]; simp; omega)
            go_wp2
            go_ret
            exact ⟨by rw [HW.out] <;> rfl, Below.refl _ _⟩
          · have HW : Hid (endsB N es = false) := Lib.hid (by rw [HV.out]; simp; omega)
            have h4 : (q == N) = false := by simp; omega
            go_wp2
            go_ret
            exact ⟨by rw [HW.out] <;> rfl, Below.refl _ _⟩
        · have HW : Hid (endsB N es = false) := Lib.hid (by rw [HV.out]; simp; omega)
          go_wp2
          go_ret
          exact ⟨by rw [HW.out] <;> rfl, Below.refl _ _⟩
      · have HW : Hid (endsB N es = false) := Lib.hid (by rw [HV.out]; simp; omega)
        go_wp2
        go_ret
        exact ⟨by rw [HW.out] <;> rfl, Below.refl _ _⟩

theorem iv_no {es : List Int} {v : Int} (h : v < 0 ∨ es = [] ∨ lastE 0 es ≤ v) : ivE es v = -1 := if_pos h
theorem iv_yes {es : List Int} {v : Int} (h1 : 0 ≤ v) (h2 : es ≠ []) (h3 : v < lastE 0 es) : ivE es v = cntE v es := if_neg (by rintro (h | h | h); omega; exact h2 h; omega)

set_option maxRecDepth 10000 in
set_option maxHeartbeats 1000000 in
theorem specIv (A : Option Addr) (n c : Nat) (es : List Int) (v : Int) (w : World) (hr : SlI w A n es) (hn : n ≤ 1048576) :
    Calls Try.prog 118 #[.slice A n c, .int .i64 v] w (GNum w (ivE es v)) := by
  have HR := Lib.hid hr
  have HL := Lib.hid hr.len
  have hl := hr.len
  clear hr
  by_cases hv : v < 0
  · have HV := Lib.hid (iv_no (es := es) (.inl hv))
    go_enter Try.func118, Try.ntmps118
    go_wp2
    go_ret
    exact ⟨by rw [HV.out] <;> rfl, Below.refl _ _⟩
  · by_cases h0 : n = 0
    · subst h0
      obtain rfl : es = [] := List.eq_nil_of_length_eq_zero hl
      have HV := Lib.hid (iv_no (es := []) (v := v) (.inr (.inl rfl)))
      go_enter Try.func118, Try.ntmps118
      go_wp2
      go_ret
      exact ⟨by rw [HV.out] <;> rfl, Below.refl _ _⟩
    · obtain ⟨j, rfl⟩ : ∃ j, n = j + 1 := ⟨n - 1, by omega⟩
      obtain ⟨b, off, x, rfl, hbw, hx, hc⟩ := HR.out.at_ (j := j) (by omega)
      obtain rfl : lastE 0 es = x := by
        have h1 := lastE_get es 0 j hl
        rw [hx.out] at h1
        injection h1 with h1
        exact h1.symm
      have hne : es ≠ [] := fun h => by rw [h] at hl; simp at hl
      have e1 : ((j + 1 : Nat) : Int) - 1 = (j : Int) := by omega
      have e2 : IntKind.i64.wrap (((j + 1 : Nat) : Int) - 1) = (j : Int) := by rw [e1]; exact IntWalk.i64_in _ (by omega)
      have HA := Lib.hid (fun h => iv_no (es := es) (v := v) (.inr (.inr h)))
      have HB := Lib.hid (fun h => iv_yes (es := es) (v := v) (by omega) hne h)
      clear hx hne hl
      generalize lastE 0 es = q at HA HB hc
      by_cases hq : q ≤ v
      · have HV := Lib.hid (HA.out hq)
        clear HA HB
        go_enter Try.func118, Try.ntmps118
        go_wp2
        go_ret
        exact ⟨by rw [HV.out] <;> rfl, Below.refl _ _⟩
      · have HV := Lib.hid (HB.out (by omega))
        clear HA HB
        go_enter Try.func118, Try.ntmps118
        go_wp2
        go_loop [5, 25] (fun p i => ∃ k : Nat, k ≤ j + 1 ∧ i = .int .i64 k ∧ p = .int .i64 (cntE v (es.take k))) (fun _ i => (j + 1) - (intOf i).toNat)
        case atStart => exact ⟨0, Nat.zero_le _, rfl, rfl⟩
        case round =>
          obtain ⟨k, hk, rfl, rfl⟩ := hrel
          by_cases hlt : k < j + 1
          · obtain ⟨b', off', x, hA, hbw', hx, hc'⟩ := HR.out.at_ hlt
            obtain ⟨rfl, rfl⟩ : b = b' ∧ off = off' := by injection hA with hA; injection hA with h1 h2; exact ⟨h1, h2⟩
            have hb := cnt_bound v (es.take k)
            have hlk : ((es.take k).length : Int) ≤ 1048576 := by rw [List.length_take]; omega
            have HC := Lib.hid (cnt_step (v := v) hx.out)
            clear hx hA
            generalize cntE v (es.take k) = p at HC hb ⊢
            by_cases hxv : x ≤ v
            · have HC2 : Hid (cntE v (es.take (k + 1)) = p + 1) := Lib.hid (by rw [HC.out, if_pos hxv])
              go_wp2
              go_round
              case rel => exact ⟨k + 1, by omega, by go_num, by rw [HC2.out] <;> go_num⟩
              case measure => simp [intOf]; omega
            · have HC2 : Hid (cntE v (es.take (k + 1)) = p) := Lib.hid (by rw [HC.out, if_neg hxv]; omega)
              go_wp2
              go_round
              case rel => exact ⟨k + 1, by omega, by go_num, by rw [HC2.out]⟩
              case measure => simp [intOf]; omega
          · obtain rfl : k = j + 1 := by omega
            have he : es.take (j + 1) = es := List.take_of_length_le (by rw [HL.out]; exact Nat.le_refl _)
            rw [he]
            go_wp2
            go_ret
            exact ⟨by rw [HV.out] <;> rfl, Below.refl _ _⟩

set_option maxRecDepth 10000 in
set_option maxHeartbeats 1000000 in
theorem implIv (A : Option Addr) (n c : Nat) (es : List Int) (v : Int) (w : World) (hr : SlI w A n es) (hn : n ≤ 1048576) :
    Calls Try.prog 124 #[.slice A n c, .int .i64 v] w (GNum w (ivE es v)) := by
  have HR := Lib.hid hr
  have HL := Lib.hid hr.len
  have hl := hr.len
  clear hr
  by_cases h0 : n = 0
  · subst h0
    obtain rfl : es = [] := List.eq_nil_of_length_eq_zero hl
    have HV := Lib.hid (iv_no (es := []) (v := v) (.inr (.inl rfl)))
    go_enter Try.func124, Try.ntmps124
    go_wp2
    go_ret
    exact ⟨by rw [HV.out] <;> rfl, Below.refl _ _⟩
  · have hz : ((n : Int) == 0) = false := by simp; omega
    by_cases hv : v < 0
    · have HV := Lib.hid (iv_no (es := es) (.inl hv))
      go_enter Try.func124, Try.ntmps124
      go_wp2
      go_ret
      exact ⟨by rw [HV.out] <;> rfl, Below.refl _ _⟩
    · obtain ⟨j, rfl⟩ : ∃ j, n = j + 1 := ⟨n - 1, by omega⟩
      obtain ⟨b, off, x, rfl, hbw, hx, hc⟩ := HR.out.at_ (j := j) (by omega)
      obtain rfl : lastE 0 es = x := by
        have h1 := lastE_get es 0 j hl
        rw [hx.out] at h1
        injection h1 with h1
        exact h1.symm
      have hne : es ≠ [] := fun h => by rw [h] at hl; simp at hl
      have e1 : ((j + 1 : Nat) : Int) - 1 = (j : Int) := by omega
      have e2 : IntKind.i64.wrap (((j + 1 : Nat) : Int) - 1) = (j : Int) := by rw [e1]; exact IntWalk.i64_in _ (by omega)
      have HA := Lib.hid (fun h => iv_no (es := es) (v := v) (.inr (.inr h)))
      have HB := Lib.hid (fun h => iv_yes (es := es) (v := v) (by omega) hne h)
      clear hx hne hl
      generalize lastE 0 es = q at HA HB hc
      by_cases hq : q ≤ v
      · have HV := Lib.hid (HA.out hq)
        clear HA HB
        go_enter Try.func124, Try.ntmps124
        go_wp2
        go_ret
        exact ⟨by rw [HV.out] <;> rfl, Below.refl _ _⟩
      · have HV := Lib.hid (HB.out (by omega))
        clear HA HB
        go_enter Try.func124, Try.ntmps124
        go_wp2
        go_loop [5, 27] (fun p i => ∃ k : Nat, k ≤ j + 1 ∧ i = .int .i64 k ∧ p = .int .i64 (cntE v (es.take k))) (fun _ i => (j + 1) - (intOf i).toNat)
        case atStart => exact ⟨0, Nat.zero_le _, rfl, rfl⟩
        case round =>
          obtain ⟨k, hk, rfl, rfl⟩ := hrel
          by_cases hlt : k < j + 1
          · obtain ⟨b', off', x, hA, hbw', hx, hc'⟩ := HR.out.at_ hlt
            obtain ⟨rfl, rfl⟩ : b = b' ∧ off = off' := by injection hA with hA; injection hA with h1 h2; exact ⟨h1, h2⟩
            have hb := cnt_bound v (es.take k)
            have hlk : ((es.take k).length : Int) ≤ 1048576 := by rw [List.length_take]; omega
            have HC := Lib.hid (cnt_step (v := v) hx.out)
            clear hx hA
            generalize cntE v (es.take k) = p at HC hb ⊢
            by_cases hxv : x ≤ v
            · have HC2 : Hid (cntE v (es.take (k + 1)) = p + 1) := Lib.hid (by rw [HC.out, if_pos hxv])
              go_wp2
              go_round
              case rel => exact ⟨k + 1, by omega, by go_num, by rw [HC2.out] <;> go_num⟩
              case measure => simp [intOf]; omega
            · have HC2 : Hid (cntE v (es.take (k + 1)) = p) := Lib.hid (by rw [HC.out, if_neg hxv]; omega)
              go_wp2
              go_round
              case rel => exact ⟨k + 1, by omega, by go_num, by rw [HC2.out]⟩
              case measure => simp [intOf]; omega
          · obtain rfl : k = j + 1 := by omega
            have he : es.take (j + 1) = es := List.take_of_length_le (by rw [HL.out]; exact Nat.le_refl _)
            rw [he]
            go_wp2
            go_ret
            exact ⟨by rw [HV.out] <;> rfl, Below.refl _ _⟩

set_option maxRecDepth 10000 in
set_option maxHeartbeats 1000000 in
theorem specSpan (A : Option Addr) (n c : Nat) (es : List Int) (p : Int) (w : World) (hr : SlI w A n es) (hn : n ≤ 1048576) :
    Calls Try.prog 66 #[.slice A n c, .int .i64 p] w fun e w' => e = .returned (.tuple #[.int .i64 (spanR es p).1, .int .i64 (spanR es p).2]) ∧ Below w.heap.size w w' := by
  have HR := Lib.hid hr
  have hl := hr.len
  clear hr
  by_cases hp : p < 0
  · have HV := Lib.hid (span_no (xs := es) (.inl hp))
    rw [HV.out]
    go_enter Try.func66, Try.ntmps66
    go_wp2
    go_ret2
    exact ⟨rfl, Below.refl _ _⟩
  · by_cases hp2 : (n : Int) ≤ p
    · have HV := Lib.hid (span_no (xs := es) (p := p) (.inr (by omega)))
      rw [HV.out]
      go_enter Try.func66, Try.ntmps66
      go_wp2
      go_ret2
      exact ⟨rfl, Below.refl _ _⟩
    · obtain ⟨k, rfl⟩ : ∃ k : Nat, p = (k : Int) := ⟨p.toNat, by omega⟩
      obtain ⟨b, off, x, rfl, hbw, hx, hc⟩ := HR.out.at_ (j := k) (by omega)
      have HV := Lib.hid (span_yes hx.out)
      rw [HV.out]
      rcases Nat.eq_zero_or_pos k with rfl | hk
      · clear hx HV
        simp only [Nat.add_zero] at hc
        have h0n : 0 < n := by omega
        go_enter Try.func66, Try.ntmps66
        go_wp2
        go_region
        go_wp2
        go_ret2
        exact ⟨rfl, by first | exact Below.refl _ _ | exact (Below.refl _ _).drew⟩
      · obtain ⟨j, rfl⟩ : ∃ j, k = j + 1 := ⟨k - 1, by omega⟩
        obtain ⟨b', off', y, hA, hbw', hy, hc'⟩ := HR.out.at_ (j := j) (by omega)
        obtain ⟨rfl, rfl⟩ : b = b' ∧ off = off' := by injection hA with hA; injection hA with h1 h2; exact ⟨h1, h2⟩
        have hz : (((j + 1 : Nat) : Int) == 0) = false := by simp; omega
        have e1 : ((j + 1 : Nat) : Int) - 1 = (j : Int) := by omega
        have e2 : IntKind.i64.wrap (((j + 1 : Nat) : Int) - 1) = (j : Int) := by rw [e1]; exact IntWalk.i64_in _ (by omega)
        rw [lastE_take_succ hy.out]
        clear hx HV hy hA
        go_enter Try.func66, Try.ntmps66
        go_wp2
        go_region
        go_wp2
        go_ret2
        exact ⟨rfl, by first | exact Below.refl _ _ | exact (Below.refl _ _).drew | exact (Below.refl _ _).drew.drew⟩
end Go.Proofs.Ytpgnappddddlpaa
namespace Go.Proofs.Ytpgnappddddlpaa
open Go.RowKit

theorem specNum_yes (n : Int) (w : World) (h0 : 0 ≤ n) (h1 : n ≤ 281474976710655) : Calls Try.prog 131 #[.int .i64 n] w fun e w' => e = .returned (.bool true) ∧ w = w' := by
  go_enter Try.func131, Try.ntmps131
  go_wp2
  go_ret
  exact ⟨rfl, rfl⟩

theorem specNum_no (n : Int) (w : World) (h : n < 0 ∨ 281474976710655 < n) : Calls Try.prog 131 #[.int .i64 n] w fun e w' => e = .returned (.bool false) ∧ w = w' := by
  rcases h with h | h
  · go_enter Try.func131, Try.ntmps131
    go_wp2
    go_ret
    exact ⟨rfl, rfl⟩
  · have h0 : 0 ≤ n := by omega
    have h2 : decide (n ≤ 281474976710655) = false := by simpa using h
    go_enter Try.func131, Try.ntmps131
    go_wp2
    go_ret
    exact ⟨rfl, rfl⟩
end Go.Proofs.Ytpgnappddddlpaa
