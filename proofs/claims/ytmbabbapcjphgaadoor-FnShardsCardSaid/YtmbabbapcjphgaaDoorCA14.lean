/- The contract of the program's function that asks whether shards belong to consecutive intervals. Condition: at most 2^20 shards, of at most 2^20 edges each. // What joining returns (no condition). // The contract of the program's Joined. Condition: at most 2^20 shards, of at most 2^20 edges each. -/
import Derived.Test.YtmbabbapcjphgaaDoorCA13
import Derived.Test.YtmbabbapcjphgaaDoorCA1
import Derived.Test.YtmbabbapcjphgaaDoorCA9
import Derived.Test.YtmbabbapcjphgaaDoorCA3
import Derived.Test.YtmbabbapcjphgaaDoorCA10
import Derived.Deep.RegionLaw
namespace Go.Proofs.YtmbabbapcjphgaaDoor
open Go.RowKit

set_option maxRecDepth 10000 in
set_option maxHeartbeats 2000000 in
theorem implDivides (N : Int) (A : Option Addr) (n c : Nat) (bs : List HE) (w : World) (hr : SlH w A n bs) (hn : n ≤ 1048576) (hs : ∀ e ∈ bs, e.n ≤ 1048576) :
    Calls Tryd.prog 32 #[.int .i64 N, .slice A n c] w (GTell w (chainB N 0 (sdL bs))) := by
  have HR := Lib.hid hr
  have HL := Lib.hid hr.len
  have HS := Lib.hid hs
  clear hr hs
  go_enter Tryd.func32, Tryd.ntmps32
  go_wp2
  go_loopw [5, 10] (fun v i wr => ∃ (k : Nat) (a : Int), k ≤ n ∧ i = .int .i64 k ∧ v = .int .i64 a ∧ Hid (chainB N 0 (sdL bs) = chainB N a ((sdL bs).drop k)) ∧ Hid (Below w.heap.size w wr)) (fun _ i _ => n - (intOf i).toNat)
  case atStart => exact ⟨0, 0, Nat.zero_le _, rfl, rfl, Lib.hid rfl, Lib.hid (Below.refl _ _)⟩
  case round =>
    obtain ⟨k, a, hk, rfl, rfl, hch, hbel⟩ := hrel
    by_cases hlt : k < n
    · obtain ⟨b, off, e, rfl, hbw, he, hok, c0, c1, c2⟩ := HR.out.at_ hlt
      have c0 := (hbel.out.cell (p := ⟨b, off + k * 3, none⟩) hbw).trans c0
      have c1 := (hbel.out.cell (p := ⟨b, off + k * 3 + 1, none⟩) hbw).trans c1
      have c2 := (hbel.out.cell (p := ⟨b, off + k * 3 + 2, none⟩) hbw).trans c2
      have C := Lib.hid (fun W (h : Below w.heap.size w W) => implShardOk e.lo e.hi e.A e.n e.c e.es W (hok.out.rd.below h) (HS.out e (List.mem_of_getElem? he.out)))
      have HA := Lib.hid (g_chain hbel.out (below_a1 wr (.cells #[.int .i64 e.lo, .int .i64 e.hi, .slice e.A e.n e.c] 38)))
      have HC := Lib.hid (hch.out.trans (chain_step he.out))
      clear hch hok
      go_wp2_with fail
      refine (C.out _ HA.out).mono ?_
      rintro e1 w1 ⟨rfl, hb1⟩
      have X1 := Lib.hid ((HBox.new wr e.lo e.hi e.A e.n e.c 38).below hb1)
      have HB := Lib.hid (g_chain HA.out hb1)
      obtain ⟨l0, x0, x1, x2⟩ := X1.out
      clear hb1 C c0 c1 c2
      cases hv : shardB e.lo e.hi e.es with
      | false =>
        have HV : Hid (chainB N 0 (sdL bs) = false) := Lib.hid (by rw [HC.out, hv]; rfl)
        clear hv
        go_wp2
        go_ret
        rw [HV.out]
        exact ⟨rfl, HB.out⟩
      | true =>
        by_cases hq : e.lo = a
        · have HN : Hid (chainB N 0 (sdL bs) = chainB N e.hi ((sdL bs).drop (k + 1))) := Lib.hid (by rw [HC.out, hv, decide_eq_true hq]; rfl)
          clear hv HC
          go_wp2
          go_roundw
          case rel => exact ⟨k + 1, e.hi, by omega, by go_num, rfl, HN, HB⟩
          case measure => simp [intOf]; omega
        · have HV : Hid (chainB N 0 (sdL bs) = false) := Lib.hid (by rw [HC.out, decide_eq_false hq]; simp)
          have hq2 : (e.lo == a) = false := by simpa using hq
          clear hv HC
          go_wp2
          go_ret
          rw [HV.out]
          exact ⟨rfl, HB.out⟩
    · obtain rfl : k = n := by omega
      have HV : Hid (chainB N 0 (sdL bs) = decide (a = N)) := Lib.hid (by
        have h := hch.out
        rw [List.drop_eq_nil_of_le (by rw [sdL_len, HL.out]; exact Nat.le_refl _), chainB] at h
        exact h)
      by_cases hq : a = N
      · go_wp2
        go_ret
        rw [HV.out]
        exact ⟨g_bool (by simp [hq]), hbel.out⟩
      · have hq2 : (a == N) = false := by simpa using hq
        go_wp2
        go_ret
        rw [HV.out]
        exact ⟨g_bool (by simp [hq]), hbel.out⟩
end Go.Proofs.YtmbabbapcjphgaaDoor
namespace Go.Proofs.YtmbabbapcjphgaaDoor
open Go.RowKit

/-- A graph and whether there is one. -/
def MadeJ (w : World) (N : Int) (es : List GE) (ok : Bool) (e : Ending) (w' : World) : Prop :=
  ∃ A c, e = .returned (.tuple #[.agg #[.int .i64 N, .slice A es.length c], .bool ok]) ∧ w'.ownsRow w.heap.size 45 3 (.slice A es.length c) es.length (es.flatMap GE.cells) ∧ Below w.heap.size w w'

end Go.Proofs.YtmbabbapcjphgaaDoor
namespace Go.Proofs.YtmbabbapcjphgaaDoor
open Go.RowKit Go.Maps

theorem zeroEdge (w : World) : (zeroValue 45).run Tryd.prog w = .ok (.agg #[.int .i64 0, .int .i64 0, .int .i64 0]) w := by kernel_rfl
set_option maxRecDepth 20000 in
set_option maxHeartbeats 8000000 in
theorem implJoined (N : Int) (A : Option Addr) (n c : Nat) (bs : List HE) (w : World) (hr : SlH w A n bs) (hn : n ≤ 1048576) (hs : ∀ e ∈ bs, e.n ≤ 1048576) :
    Calls Tryd.prog 10 #[.int .i64 N, .slice A n c] w (MadeJ w (joinN N (sdL bs)) (joinE N (sdL bs)) (joinB N (sdL bs))) := by
  obtain ⟨i0, hi, hz0, hz1, hz2⟩ := info_parts Tryd.infoEdge
  have CD := Lib.hid (fun W (h : Below w.heap.size w W) => implDivides N A n c bs W (hr.below h) hn hs)
  have HR := Lib.hid hr
  have HL := Lib.hid hr.len
  clear hr hs
  have HA := Lib.hid (below_a1 w (.cells #[.int .i64 0, .slice none 0 0] 25))
  go_enter Tryd.func10, Tryd.ntmps10
  go_wp2_with fail
  refine (CD.out _ HA.out).mono ?_
  rintro e w1 ⟨rfl, hb1⟩
  have R1 := Lib.hid ((DBox.new w (.int .i64 0) (.slice none 0 0) 25).below hb1)
  have HB1 := Lib.hid (g_chain HA.out hb1)
  clear hb1 CD
  cases hv : chainB N 0 (sdL bs) with
  | false =>
    have HJ := Lib.hid (join_chain hv)
    obtain ⟨l0, x0, x1, xf⟩ := R1.out
    have xf0 := xf 0
    have xf1 := xf 1
    clear xf hv
    go_wp2
    refine bodyPost_ret (v := .tuple #[.agg #[.int .i64 0, .slice none 0 0], .bool false]) (by simp [results, Tryd.results10, go_sem, x0, x1]) rfl ?_
    rw [HJ.out, (join_none HJ.out).1, (join_none HJ.out).2]
    exact ⟨none, 0, rfl, World.ownsRow_nil _ _ _ _, by repeat (first | exact HB1.out | refine Below.setCell ?_ (by simp) _)⟩
  | true =>
    have HFE := Lib.hid (flat_each hv)
    have HC := Lib.hid hv
    clear hv
    have hmm := @run_makeMap Tryd.prog
    go_wp2
    have M0 := Lib.hid (ByIdx.new w1)
    have R2 := Lib.hid (R1.out.alloc (.map #[] 0))
    have HB2 := Lib.hid (g_chain HB1.out (below_a1 w1 (.map #[] 0)))
    have hr0 : w.heap.size < w1.heap.size := R1.out.lt
    go_loopw [6, 24] (fun u i wr => ∃ k m : Nat, k ≤ n ∧ i = .int .i64 k ∧ u = .int .i64 m ∧ m ≤ 400 * k ∧ Hid (m = (flatK ((sdL bs).take k)).length) ∧ Hid (∀ e ∈ flatK ((sdL bs).take k), e.f < N) ∧ Hid (DBox wr w.heap.size (.int .i64 0) (.slice none 0 0)) ∧ Hid (ByIdx wr w1.heap.size m (flatK ((sdL bs).take k))) ∧ Hid (Below w.heap.size w wr)) (fun _ i _ => n - (intOf i).toNat)
    case atStart => exact ⟨0, 0, Nat.zero_le _, rfl, rfl, Nat.zero_le _, Lib.hid rfl, Lib.hid (by simp [flatK]), R2, M0, HB2⟩
    case round =>
      clear M0 R2 HB2 R1 HB1
      obtain ⟨k, m, hk, rfl, rfl, hm4, hm, hf, hbox, hmap, hbel⟩ := hrel
      by_cases hlt : k < n
      · obtain ⟨b, off, e, rfl, hbw, he, hok, c0, c1, c2⟩ := HR.out.at_ hlt
        obtain ⟨elo, ehi, eA, en, ec, ees⟩ := e
        have c0 : wr.cell? ⟨b, off + k * 3, none⟩ = some (.int .i64 elo) := (hbel.out.cell (p := ⟨b, off + k * 3, none⟩) hbw).trans c0
        have c1 : wr.cell? ⟨b, off + k * 3 + 1, none⟩ = some (.int .i64 ehi) := (hbel.out.cell (p := ⟨b, off + k * 3 + 1, none⟩) hbw).trans c1
        have c2 : wr.cell? ⟨b, off + k * 3 + 2, none⟩ = some (.slice eA en ec) := (hbel.out.cell (p := ⟨b, off + k * 3 + 2, none⟩) hbw).trans c2
        have hen : en ≤ 400 := by
          have h1 := shardB_iff (chain_each HC.out (elo, ehi, ees) (List.mem_map_of_mem (List.mem_of_getElem? he.out)))
          have h2 := hok.out.rd.len
          have h3 : ees.length ≤ 400 := h1.2.2.2.1
          have h4 : ees.length = en := h2
          omega
        have HEL : Hid (ees.length = en) := Lib.hid hok.out.rd.len
        have HRE : Hid (SlK w eA en ees) := Lib.hid hok.out.rd
        have HBA := Lib.hid (below_a1 wr (.cells #[.int .i64 elo, .int .i64 ehi, .slice eA en ec] 38))
        have hbox1 := Lib.hid (hbox.out.below HBA.out)
        have hmap1 := Lib.hid (hmap.out.below HBA.out)
        have hbel1 := Lib.hid (g_chain hbel.out HBA.out)
        have hmap0 : Hid (ByIdx (wr.alloc (.cells #[.int .i64 elo, .int .i64 ehi, .slice eA en ec] 38)) w1.heap.size (m + 0) (flatK ((sdL bs).take k) ++ ees.take 0)) := Lib.hid (by simpa using hmap1.out)
        have hf0 : Hid (∀ x ∈ flatK ((sdL bs).take k) ++ ees.take 0, x.f < N) := Lib.hid (by simpa using hf.out)
        clear hok hmap1 hmap hbox hf
        go_wp2
        clear c0 c1 c2
        generalize wr.alloc (.cells #[.int .i64 elo, .int .i64 ehi, .slice eA en ec] 38) = W1 at *
        go_loopw [6, 31] (fun u i wr => ∃ j : Nat, j ≤ en ∧ i = .int .i64 j ∧ u = .int .i64 ((m + j : Nat) : Int) ∧ Hid (∀ x ∈ flatK ((sdL bs).take k) ++ ees.take j, x.f < N) ∧ Hid (DBox wr w.heap.size (.int .i64 0) (.slice none 0 0)) ∧ Hid (ByIdx wr w1.heap.size (m + j) (flatK ((sdL bs).take k) ++ ees.take j)) ∧ Hid (Below w.heap.size w wr)) (fun _ i _ => en - (intOf i).toNat)
        case atStart => exact ⟨0, Nat.zero_le _, rfl, rfl, hf0, hbox1, hmap0, hbel1⟩
        case round =>
          clear hbox1 hmap0 hbel1 hf0 HBA
          rename World => W2
          obtain ⟨j, hj, rfl, rfl, hf, hbox, hmap, hbel⟩ := hrel
          by_cases hlj : j < en
          · obtain ⟨b', off', x, rfl, hbw', hx, d0, d1, d2, d3, d4⟩ := HRE.out.at_ hlj
            have d0 := (hbel.out.cell (p := ⟨b', off' + j * 5, none⟩) hbw').trans d0
            have d1 := (hbel.out.cell (p := ⟨b', off' + j * 5 + 1, none⟩) hbw').trans d1
            have d2 := (hbel.out.cell (p := ⟨b', off' + j * 5 + 2, none⟩) hbw').trans d2
            have d3 := (hbel.out.cell (p := ⟨b', off' + j * 5 + 3, none⟩) hbw').trans d3
            have d4 := (hbel.out.cell (p := ⟨b', off' + j * 5 + 4, none⟩) hbw').trans d4
            have hxF : x ∈ flatK (sdL bs) := by
              obtain ⟨G, hG⟩ := flat_mid he.out hx.out
              rw [hG]
              simp
            have hx3 := HFE.out x hxF
            have HXF := Lib.hid hxF
            have HTK := Lib.hid (g_take ees j x hx.out)
            have HBX := Lib.hid (below_a1 W2 (.cells #[.int .i64 x.f, .int .i64 x.t, .int .i64 x.w, .int .i64 x.i, .int .i64 x.v] 74))
            have hbox2 := Lib.hid (hbox.out.below HBX.out)
            have hbel2 := Lib.hid (g_chain hbel.out HBX.out)
            obtain ⟨l0, x0, x1, xf⟩ := hbox2.out
            have xf0 := xf 0
            have xf1 := xf 1
            clear xf hxF hbox
            rcases Int.lt_or_le x.f N with hxN | hxN
            · have hkey := keyIdx (wf_small hx3.1 (by omega))
              obtain ⟨D, hD, hDm, hD1, hD2⟩ := hmap.out.map
              have HD := Lib.hid (hD.kept (grownBy_of_below HBX.out none) (by simp))
              have HDm := Lib.hid hDm
              have HD1 := Lib.hid hD1
              have HD2 := Lib.hid hD2
              clear hD hDm hD1 hD2 hmap
              go_wp2_with (at_mapUpdate; refine wpList_mapUpdate_own _ rfl _ _ _ 76 rfl 3 45 Tryd.keyedInt Tryd.underlying76 rawE w1.heap.size (m + j) D rfl HD.out (by unfold maxLen; omega) _ _ _ rfl rfl hkey _ [] rfl ?_; intro w3 ho3 hg3)
              have hmap3 : Hid (ByIdx w3 w1.heap.size (m + (j + 1)) (flatK ((sdL bs).take k) ++ ees.take (j + 1))) := Lib.hid (by
                rw [HTK.out, ← List.append_assoc]
                exact ByIdx.put ho3 HDm.out HD1.out HD2.out)
              have hbox3 := Lib.hid (hbox2.out.grown hg3 (by intro hh; injection hh with hh; omega))
              have hbel3 := Lib.hid (hbel2.out.grown hg3 hbel2.out.size (fun q hq => by injection hq with hq; omega))
              have hf3 : Hid (∀ y ∈ flatK ((sdL bs).take k) ++ ees.take (j + 1), y.f < N) := Lib.hid (by
                intro y hy
                rw [HTK.out, ← List.append_assoc] at hy
                rcases List.mem_append.1 hy with hy | hy
                · exact hf.out y hy
                · simp at hy; subst hy; exact hxN)
              clear ho3 hg3
              go_wp2
              go_roundw
              case rel => exact ⟨j + 1, by omega, by go_num, by go_num, hf3, hbox3, hmap3, hbel3⟩
              case measure => simp [intOf]; omega
            · have HJ := Lib.hid (join_no1 (N := N) HXF.out (.inr hxN))
              go_wp2
              refine bodyPost_ret (v := .tuple #[.agg #[.int .i64 0, .slice none 0 0], .bool false]) (by simp [results, Tryd.results10, go_sem, x0, x1]) rfl ?_
              rw [HJ.out, (join_none HJ.out).1, (join_none HJ.out).2]
              exact ⟨none, 0, rfl, World.ownsRow_nil _ _ _ _, by repeat (first | exact hbel2.out | refine Below.setCell ?_ (by simp) _)⟩
          · obtain rfl : j = en := by omega
            have hft : Hid (flatK ((sdL bs).take (k + 1)) = flatK ((sdL bs).take k) ++ ees.take j) := Lib.hid (by rw [show flatK ((sdL bs).take (k + 1)) = flatK ((sdL bs).take k) ++ ees from flat_step he.out, show ees.take j = ees from List.take_of_length_le (by rw [HEL.out]; exact Nat.le_refl _)])
            have hm2 : Hid (m + j = (flatK ((sdL bs).take (k + 1))).length) := Lib.hid (by rw [show flatK ((sdL bs).take (k + 1)) = flatK ((sdL bs).take k) ++ ees from flat_step he.out, List.length_append, ← hm.out, HEL.out])
            go_wp2
            go_roundw
            case rel => exact ⟨k + 1, m + j, by omega, by go_num, rfl, by omega, hm2, Lib.hid (by rw [hft.out]; exact hf.out), hbox, Lib.hid (by rw [hft.out]; exact hmap.out), hbel⟩
            case measure => simp [intOf]; omega
      · obtain rfl : k = n := by omega
        have hFA := flat_all bs (k := k) (by rw [HL.out]; exact Nat.le_refl _)
        rw [hFA] at hm hf hmap
        clear hFA
        have hW0 : wr.heap.size < (wr.alloc (.cells #[.int .i64 N, .slice none 0 0] 25)).heap.size := by simp
        have hrw : w1.heap.size < wr.heap.size := hmap.out.lt
        have G3 := Lib.hid (DBox.new wr (.int .i64 N) (.slice none 0 0) 25)
        have hbox3 := Lib.hid (hbox.out.alloc (.cells #[.int .i64 N, .slice none 0 0] 25))
        have hmap3 := Lib.hid (hmap.out.below (below_a1 wr (.cells #[.int .i64 N, .slice none 0 0] 25)))
        have hbel3 := Lib.hid (g_chain hbel.out (below_a1 wr (.cells #[.int .i64 N, .slice none 0 0] 25)))
        clear hbox hmap hbel HR
        go_wp2
        obtain ⟨gb, hgb⟩ : ∃ gb, gb = wr.heap.size := ⟨_, rfl⟩
        rw [← hgb] at hW0 hrw G3 ⊢
        generalize wr.alloc (.cells #[.int .i64 N, .slice none 0 0] 25) = W0 at *
        clear hgb
        go_loopw [57] (fun i wr => ∃ (q : Nat) (out : List GE) (P : Option Addr) (cP : Nat), q ≤ m ∧ i = .int .i64 q ∧ q ≤ 400 ∧ Hid (out.length = q) ∧ Hid (∀ j : Nat, j < q → ∃ e ∈ flatK (sdL bs), e.i = (j : Int) ∧ out[j]? = some e.ge) ∧ Hid (DBox wr gb (.int .i64 N) (.slice P q cP)) ∧ Hid (wr.ownsRow (gb + 1) 45 3 (.slice P q cP) q (out.flatMap GE.cells)) ∧ Hid (DBox wr w.heap.size (.int .i64 0) (.slice none 0 0)) ∧ Hid (ByIdx wr w1.heap.size m (flatK (sdL bs))) ∧ Hid (Below w.heap.size w wr)) (fun i _ => m - (intOf i).toNat)
        case atStart => exact ⟨0, [], none, 0, Nat.zero_le _, rfl, by omega, Lib.hid rfl, Lib.hid (fun j h => by omega), G3, Lib.hid (World.ownsRow_nil _ _ _ _), hbox3, hmap3, hbel3⟩
        case round =>
          rename World => W2
          clear hbox3 hmap3 hbel3 G3
          obtain ⟨q, out, P, cP, hq, rfl, hq4, hol, hout, hg, hown, hbox, hmap, hbel⟩ := hrel
          by_cases hlq : q < m
          · have hkey := keyIdx (wf_small (x := (q : Int)) (by omega) (by omega))
            obtain ⟨D, hD, hDm, hD1, hD2⟩ := hmap.out.map
            have HD := Lib.hid hD
            by_cases hx : ∃ e ∈ flatK (sdL bs), e.i = (q : Int)
            · obtain ⟨hh, e, he, hei, hat⟩ := hD1 (q : Int) hx
              have HAT := Lib.hid (hat (.held (.agg #[.int .i64 0, .int .i64 0, .int .i64 0])))
              have HH := Lib.hid hh
              have HE := Lib.hid (show e ∈ flatK (sdL bs) ∧ e.i = (q : Int) from ⟨he, hei⟩)
              have he5 := HFE.out e he
              clear hh hat he hx hD1 hD2 hDm hD hei
              obtain ⟨gl, g0, g1, gf⟩ := hg.out
              have gf0 := gf 0
              have gf1 := gf 1
              clear gf
              have W4 := Lib.hid (below_a2 W2 (.cells #[.int .i64 e.f, .int .i64 e.t, .int .i64 e.w] 45) (.cells #[.int .i64 e.f, .int .i64 e.t, .int .i64 e.w] 45))
              have hg4 := Lib.hid (hg.out.below W4.out)
              have hbox4 := Lib.hid (hbox.out.below W4.out)
              have hmap4 := Lib.hid (hmap.out.below W4.out)
              have hbel4 := Lib.hid (g_chain hbel.out W4.out)
              have hown4 := Lib.hid (own_below hown.out W4.out)
              have HFAR : Hid (∀ b, b ≤ gb → (Value.slice P q cP).ownBlock ≠ some b) := Lib.hid (fun b hb e => by have := (hown.out.lt b e).1; omega)
              have hW2 : gb < W2.heap.size := hg.out.lt
              have HON := Lib.hid (e.ge.cells_one)
              go_wp2_with (first
                | (at_builtin; refine wpList_append_any _ rfl (.tmp 70) (.tmp 72) 23 rfl (gb + 1) 45 i0 _ 3 24 Tryd.underlying23 hi hz0 hz1 hz2 rfl (by omega) _ q (out.flatMap GE.cells) rfl hown4.out (W2.heap.size + 1 + 1) (some ⟨W2.heap.size + 1, 0, none⟩) 1 1 (GE.cells e.ge) rfl (three_reads _ _ _ _ _ _ (by simp)) HON.out (by simp only [maxLen]; omega) (by omega) (by simp; omega) ?_; intro v3 w3 hown3 hg3 hat3; obtain ⟨P3, c3, rfl, -⟩ := own_formG hown3; have hg5 := Lib.hid (hg4.out.grown hg3 (HFAR.out gb (Nat.le_refl _))); obtain ⟨gl5, g50, g51, gf5⟩ := hg5.out; have g5f := gf5 1; clear gf5)
                | (at_lookup; refine lookup_known _ rfl _ _ 76 rfl 3 45 Tryd.keyedInt Tryd.underlying76 (zeroEdge _) w1.heap.size m D rfl HD.out _ _ rfl hkey (.agg #[.int .i64 e.f, .int .i64 e.t, .int .i64 e.w]) true HAT.out HH.out ?_))
              have hbox5 := Lib.hid ((hbox4.out.grown hg3 (HFAR.out _ (by omega))).far (p := ⟨gb, 1, none⟩) (by show w.heap.size ≠ gb; omega) (.slice P3 (q + 1) c3))
              have hgs : w3.grownBy (w3.setCell ⟨gb, 1, none⟩ (.slice P3 (q + 1) c3)) (some gb) := ⟨rfl, rfl, rfl, by simp, fun i _ hi => Below.heap_setCell w3 ⟨gb, 1, none⟩ (.slice P3 (q + 1) c3) i (fun h => hi (by rw [h]))⟩
              have hmap5 := Lib.hid ((hmap4.out.kept hg3 (HFAR.out _ (by omega)).symm).kept hgs (by intro h; injection h with h; omega))
              have hbel5 := Lib.hid ((hbel4.out.grown hg3 hbel4.out.size (fun j hj => by have := (hown.out.lt j hj).1; omega)).setCell (p := ⟨gb, 1, none⟩) (by show w.heap.size ≤ gb; omega) (.slice P3 (q + 1) c3))
              have hg6 := Lib.hid (hg5.out.set1 (.slice P3 (q + 1) c3))
              have hown6 := Lib.hid (own_lowG hown3 (p := ⟨gb, 1, none⟩) (by show gb < gb + 1; omega) (.slice P3 (q + 1) c3))
              clear hown3 hg3 hat3 g50 g51 g5f hgs
              go_wp2
              go_roundw
              case rel => exact ⟨q + 1, out ++ [e.ge], P3, c3, by omega, by go_num, by have := HE.out.2; omega, Lib.hid (by rw [List.length_append, hol.out]; rfl), Lib.hid (by
                intro j hj
                rcases Nat.lt_or_ge j q with h1 | h1
                · obtain ⟨y, hy1, hy2, hy3⟩ := hout.out j h1
                  exact ⟨y, hy1, hy2, by rw [List.getElem?_append_left (by rw [hol.out]; exact h1)]; exact hy3⟩
                · obtain rfl : j = q := by omega
                  exact ⟨e, HE.out.1, HE.out.2, by rw [List.getElem?_append_right (by rw [hol.out]; exact Nat.le_refl _), hol.out, Nat.sub_self]; rfl⟩), hg6, Lib.hid (by rw [List.flatMap_append]; simpa using hown6.out), hbox5, hmap5, hbel5⟩
              case measure => simp [intOf]; omega
            · obtain ⟨hh, hat⟩ := hD2 (q : Int) hx
              have HAT := Lib.hid (hat (.held (.agg #[.int .i64 0, .int .i64 0, .int .i64 0])))
              have HH := Lib.hid hh
              have HJ := Lib.hid (join_no2 HC.out (j := q) (by rw [← hm.out]; exact hlq) hx)
              clear hh hat hx hD1 hD2 hDm hD
              have hbox4 := Lib.hid (hbox.out.alloc (.cells #[.int .i64 0, .int .i64 0, .int .i64 0] 45))
              have hbel4 := Lib.hid (g_chain hbel.out (below_a1 W2 (.cells #[.int .i64 0, .int .i64 0, .int .i64 0] 45)))
              obtain ⟨l0, x0, x1, xf⟩ := hbox4.out
              have xf0 := xf 0
              have xf1 := xf 1
              clear xf
              go_wp2_with (at_lookup; refine lookup_known _ rfl _ _ 76 rfl 3 45 Tryd.keyedInt Tryd.underlying76 (zeroEdge _) w1.heap.size m D rfl HD.out _ _ rfl hkey (.agg #[.int .i64 0, .int .i64 0, .int .i64 0]) false HAT.out HH.out ?_)
              refine bodyPost_ret (v := .tuple #[.agg #[.int .i64 0, .slice none 0 0], .bool false]) (by simp [results, Tryd.results10, go_sem, x0, x1]) rfl ?_
              rw [HJ.out, (join_none HJ.out).1, (join_none HJ.out).2]
              exact ⟨none, 0, rfl, World.ownsRow_nil _ _ _ _, by repeat (first | exact hbel4.out | refine Below.setCell ?_ (by simp) _)⟩
          · obtain rfl : q = m := by omega
            obtain ⟨HJ1, HJ2⟩ := join_yes (N := N) (out := out) HC.out hf.out (by rw [hol.out, hm.out]) (fun j hj => hout.out j (by rw [hm.out]; exact hj))
            have HJ := Lib.hid HJ1
            have HJ3 := Lib.hid HJ2
            clear HJ1 HJ2
            obtain ⟨l0, x0, x1, xf⟩ := hbox.out
            have xf0 := xf 0
            have xf1 := xf 1
            obtain ⟨gl, g0, g1, gf⟩ := hg.out
            clear xf gf
            go_wp2
            refine bodyPost_ret (v := .tuple #[.agg #[.int .i64 N, .slice P q cP], .bool true]) (by simp [results, Tryd.results10, go_sem, x0, x1]) rfl ?_
            rw [HJ.out, (join_some HJ.out).1, (join_some HJ.out).2, ← HJ3.out]
            refine ⟨P, cP, by rw [hol.out], ?_, by repeat (first | exact hbel.out | refine Below.setCell ?_ (by simp) _)⟩
            rw [hol.out]
            exact own_monoG (own_lowG (own_lowG hown.out (by show w.heap.size < gb + 1; omega) _) (by show w.heap.size < gb + 1; omega) _) (by omega)
end Go.Proofs.YtmbabbapcjphgaaDoor
