/- The contracts of the program's functions that read a graph's text. Condition: at most 2^20 bytes; the library's word length is an int in memory, its table of powers of ten, its two errors and its type 'error' hold what their text lays. -/
import Derived.Test.YtggfjnmplokccaaDoorEdgeI
import Derived.Test.YtggfjnmplokccaaDoorAsHit
namespace Go.Proofs.YtggfjnmplokccaaDoor
open Go.RowKit

def parseR : List ByteArray → RG
  | [] => badG 1
  | h :: r => if numB h then (if 150 < valB h then badG 2 else readE (valB h) [] r) else badG 1
theorem parse_cons (h : ByteArray) (r : List ByteArray) : parseR (h :: r) = if numB h then (if 150 < valB h then badG 2 else readE (valB h) [] r) else badG 1 := rfl
theorem readG_parse {s : ByteArray} (hs : ¬ 20000 < s.size) : readG s = parseR (linesOf s) := by
  cases hl : linesOf s with
  | nil => rw [readG_none hs hl]; rfl
  | cons h r =>
    rw [parse_cons]
    cases hv : numB h with
    | true =>
      rw [if_pos rfl]
      by_cases h150 : 150 < valB h
      · rw [if_pos h150, readG_much hs hl (nums_one hv) h150]
      · rw [if_neg h150, readG_go hs hl (nums_one hv) h150]
    | false => rw [readG_head hs hl (nums_not_one hv), if_neg (by simp)]
/-- What parsing leaves. -/
def GraphP (w : World) (r : RG) (e : Ending) (w' : World) : Prop :=
  ∃ A c, e = .returned (.tuple #[.agg #[.int .i64 r.N, .slice A r.es.length c], if r.c = 0 then .nilIface else errV r.c]) ∧ w'.ownsRow w.heap.size 36 3 (.slice A r.es.length c) r.es.length (r.es.flatMap GE.cells) ∧ Below w.heap.size w w'
theorem graph_bad {w W : World} (c : Int) (hc : c ≠ 0) (hb : Below w.heap.size w W) (u v : Value) : GraphP w (badG c) (.returned (.tuple #[.agg #[.int .i64 0, .slice none 0 0], errV c])) ((W.setCell ⟨w.heap.size, 0, none⟩ u).setCell ⟨w.heap.size, 1, none⟩ v) :=
  ⟨none, 0, by show _ = Ending.returned (.tuple #[_, if c = 0 then _ else _]); rw [if_neg hc]; rfl, World.ownsRow_nil _ _ _ _, below_two hb _ _⟩
theorem graph_fine {w W : World} {N : Int} {A : Option Addr} {n c lo : Nat} {es : List GE} (hb : Below w.heap.size w W) (ho : W.ownsRow lo 36 3 (.slice A n c) n (es.flatMap GE.cells)) (hn : es.length = n) (hlo : w.heap.size < lo) (u v : Value) :
    GraphP w ⟨N, es, 0⟩ (.returned (.tuple #[.agg #[.int .i64 N, .slice A n c], .nilIface])) ((W.setCell ⟨w.heap.size, 0, none⟩ u).setCell ⟨w.heap.size, 1, none⟩ v) := by
  subst hn
  exact ⟨A, c, rfl, own_monoG (own_lowG (own_lowG ho (p := ⟨w.heap.size, 0, none⟩) hlo u) (p := ⟨w.heap.size, 1, none⟩) hlo v) (Nat.le_of_lt hlo), below_two hb _ _⟩

/-- What the library's variables hold. -/
structure Door (w : World) : Prop where
  m : MaxLen w
  t : Pow10 w
  e : Errs w
  y : ErrType w
theorem Door.below {w w' : World} (h : Door w) (hb : Below w.heap.size w w') : Door w' := by
  refine ⟨h.m.below hb, h.t.below hb, h.e.below hb, ?_⟩
  have hy := h.y
  unfold ErrType at hy ⊢
  exact (hb.cell (World.block_lt_of_cell? w _ hy)).trans hy

set_option maxRecDepth 10000 in
set_option maxHeartbeats 4000000 in
theorem implParse (ls : List ByteArray) (P : Option Addr) (n c : Nat) (w : World) (hr : RdS w P n ls) (hc : n ≤ c) (hn20 : n ≤ 1048577) (hsz : ∀ p ∈ ls, p.size ≤ 1048576) (hd : Door w) :
    Calls Tryd.prog 17 #[.slice P n c] w (GraphP w (parseR ls)) := by
  have HD := Lib.hid hd
  have CS := Lib.hid (fun p W (h : p ∈ ls) (hd : Door W) => implSize p W (hsz p h) hd.t hd.e)
  have CE := Lib.hid (fun p N W (h : p ∈ ls) (hd : Door W) => implEdge p N W (hsz p h) hd.m hd.t hd.e)
  have hlen := hr.len
  have HR := Lib.hid hr
  clear hr hd hsz
  have D0 := Lib.hid (DBox.new w (.int .i64 0) (.slice none 0 0) 24)
  have HB0 := Lib.hid (below_a1 w (.cells #[.int .i64 0, .slice none 0 0] 24))
  cases ls with
  | nil =>
    obtain rfl : n = 0 := by simpa using hlen.symm
    clear hlen
    go_enter Tryd.func17, Tryd.ntmps17
    go_wp2
    refine bodyPost_ret (v := .tuple #[.agg #[.int .i64 0, .slice none 0 0], errV 1]) (by simp [results, Tryd.results17, go_sem, errV]) rfl ?_
    exact ⟨none, 0, rfl, World.ownsRow_nil _ _ _ _, below_a1 _ _⟩
  | cons h r =>
    have hn1 : n ≤ r.length + 1 := by rw [← hlen, List.length_cons]; exact Nat.le_refl _
    have hn2 : r.length + 1 ≤ n := by rw [← hlen, List.length_cons]; exact Nat.le_refl _
    clear hlen
    obtain ⟨b, off, p, rfl, hbw, hp, c0⟩ := HR.out.at_ (k := 0) (by omega)
    obtain rfl : h = p := by have := hp.out; simpa using this
    simp only [Nat.add_zero] at c0
    have c0 := (HB0.out.cell (p := ⟨b, off, none⟩) hbw).trans c0
    have HR0 := Lib.hid (HR.out.below HB0.out)
    have CS0 := Lib.hid (fun W (hd : Door W) => CS.out h W (by simp) hd)
    have hzz : ((n : Int) == 0) = false := by simp; omega
    have HV1 : Hid (numB h = false → parseR (h :: r) = badG 1 ∧ sizeN h = (0, 1)) := Lib.hid (fun hv => by simp [parseR, sizeN, hv])
    have HV2 : Hid (numB h = true → 150 < valB h → parseR (h :: r) = badG 2 ∧ sizeN h = (0, 2)) := Lib.hid (fun hv h1 => by simp [parseR, sizeN, hv, h1])
    have HV3 : Hid (numB h = true → ¬ 150 < valB h → parseR (h :: r) = readE (valB h) [] r ∧ sizeN h = (valB h, 0)) := Lib.hid (fun hv h1 => by rw [parse_cons]; unfold sizeN; rw [hv, if_pos rfl, if_pos rfl, if_neg h1, if_neg h1]; exact ⟨rfl, rfl⟩)
    generalize parseR (h :: r) = R at HV1 HV2 HV3 ⊢
    have hpos : 0 < n := by omega
    clear hp CS
    cases hv : numB h with
    | false =>
      obtain ⟨hR, hz⟩ := HV1.out hv
      have HV := Lib.hid hR
      rw [hz] at CS0
      unfold SizeP at CS0
      clear HV1 HV2 HV3 hv hR hz
      go_enter Tryd.func17, Tryd.ntmps17
      go_wp2_with fail
      refine (CS0.out _ (HD.out.below HB0.out)).mono ?_
      rintro e w1 ⟨rfl, hb1⟩
      have D1 := Lib.hid (D0.out.below hb1)
      have HB1 := Lib.hid (g_chain HB0.out hb1)
      obtain ⟨l0, x0, x1, xf⟩ := D1.out
      have xf0 := xf 0
      have xf1 := xf 1
      have hif : (if (1 : Int) = 0 then Value.nilIface else errV 1) = .iface 47 (.agg #[.int .i64 1]) := rfl
      rw [hif]
      clear xf hb1 D0 HB0 hif
      go_wp2
      refine bodyPost_ret (v := .tuple #[.agg #[.int .i64 0, .slice none 0 0], errV 1]) (by simp [results, Tryd.results17, go_sem, x0, x1, errV]) rfl ?_
      rw [HV.out]
      exact graph_bad 1 (by decide) HB1.out _ _
    | true =>
      by_cases h150 : 150 < valB h
      · obtain ⟨hR, hz⟩ := HV2.out hv h150
        have HV := Lib.hid hR
        rw [hz] at CS0
        unfold SizeP at CS0
        clear HV1 HV2 HV3 hv hR hz h150
        go_enter Tryd.func17, Tryd.ntmps17
        go_wp2_with fail
        refine (CS0.out _ (HD.out.below HB0.out)).mono ?_
        rintro e w1 ⟨rfl, hb1⟩
        have D1 := Lib.hid (D0.out.below hb1)
        have HB1 := Lib.hid (g_chain HB0.out hb1)
        obtain ⟨l0, x0, x1, xf⟩ := D1.out
        have xf0 := xf 0
        have xf1 := xf 1
        have hif : (if (2 : Int) = 0 then Value.nilIface else errV 2) = .iface 47 (.agg #[.int .i64 2]) := rfl
        rw [hif]
        clear xf hb1 D0 HB0 hif
        go_wp2
        refine bodyPost_ret (v := .tuple #[.agg #[.int .i64 0, .slice none 0 0], errV 2]) (by simp [results, Tryd.results17, go_sem, x0, x1, errV]) rfl ?_
        rw [HV.out]
        exact graph_bad 2 (by decide) HB1.out _ _
      · obtain ⟨hR, hz⟩ := HV3.out hv h150
        have HV := Lib.hid hR
        rw [hz] at CS0
        unfold SizeP at CS0
        have hbd := valB_bd hv
        clear HV1 HV2 HV3 hR hz hv
        generalize valB h = x at CS0 HV h150 hbd
        obtain ⟨i0, hi, hz0, hz1, hz2⟩ := info_parts Tryd.infoEdge
        obtain ⟨P', hsl, hrd⟩ := rest_from HR0.out (by omega) hc
        obtain ⟨m, hm⟩ : ∃ m, m = n - 1 := ⟨_, rfl⟩
        rw [← hm] at hsl hrd
        have hml : Hid (r.length = m) := Lib.hid (by omega)
        have HRD := Lib.hid (show RdS _ P' m r from by simpa using hrd)
        have HPL := Lib.hid (fun hm0 : 0 < m => hrd.lt hm0)
        have hm20 : m ≤ 1048576 := by omega
        clear hm hrd
        go_enter Tryd.func17, Tryd.ntmps17
        go_wp2_with fail
        refine (CS0.out _ (HD.out.below HB0.out)).mono ?_
        rintro e w1 ⟨rfl, hb1⟩
        simp only [if_true]
        have D1 := Lib.hid (D0.out.below hb1)
        have HB1 := Lib.hid (g_chain HB0.out hb1)
        have HRD1 := Lib.hid (HRD.out.below hb1)
        have hs1 : w.heap.size < w1.heap.size := D1.out.lt
        have HPL1 : Hid (0 < m → ∀ b off sp, P' = some ⟨b, off, sp⟩ → b < w1.heap.size) := Lib.hid (fun h0 b off sp h1 => by have := HPL.out h0 b off sp h1; have := hb1.size; omega)
        have G3 := Lib.hid (DBox.new w1 (.int .i64 x) (.slice none 0 0) 24)
        have D3 := Lib.hid (D1.out.alloc (.cells #[.int .i64 x, .slice none 0 0] 24))
        have HB3 := Lib.hid (g_chain HB1.out (below_a1 w1 (.cells #[.int .i64 x, .slice none 0 0] 24)))
        have HRD3 := Lib.hid (HRD1.out.below (below_a1 w1 (.cells #[.int .i64 x, .slice none 0 0] 24)))
        clear HR HR0 hbw HRD hb1 D0 HB0 D1 HB1 HRD1 HPL hn1 hn2 hpos hzz c0 CS0
        go_wp2
        clear hsl
        have hg0 : w1.heap.size < (w1.alloc (.cells #[.int .i64 x, .slice none 0 0] 24)).heap.size := G3.out.lt
        generalize w1.alloc (.cells #[.int .i64 x, .slice none 0 0] 24) = W0 at G3 D3 HB3 HRD3 hg0 ⊢
        go_loopw [33] (fun i wr => ∃ (k : Nat) (acc : List GE) (A : Option Addr) (ca : Nat), k ≤ m ∧ i = .int .i64 k ∧ Hid (R = readE x acc (r.drop k)) ∧ acc.length ≤ 400 ∧ Hid (DBox wr w1.heap.size (.int .i64 x) (.slice A acc.length ca)) ∧ Hid (wr.ownsRow W0.heap.size 36 3 (.slice A acc.length ca) acc.length (acc.flatMap GE.cells)) ∧ Hid (W0.grownBy wr (some w1.heap.size))) (fun i _ => m - (intOf i).toNat)
        case atStart => exact ⟨0, [], none, 0, by omega, rfl, HV, by simp, G3, Lib.hid (World.ownsRow_nil _ _ _ _), Lib.hid (World.grownBy.refl _ _)⟩
        case round =>
          clear G3
          obtain ⟨k, acc, A, ca, hk, rfl, HRE, hacc, hgb, hown, hgr⟩ := hrel
          have hrd := Lib.hid (show k < m → RdS wr P' m r from fun hkm => HRD3.out.other hgr.out (fun b off sp h1 h2 => by
            have := HPL1.out (by omega) b off sp h1
            injection h2 with h2
            omega))
          have hdb := Lib.hid (D3.out.grown hgr.out (by intro hh; injection hh with hh; omega))
          have hbel : Hid (Below w.heap.size w wr) := Lib.hid (HB3.out.grown hgr.out HB3.out.size (fun q hq => by injection hq with hq; omega))
          by_cases hlt : k < m
          · obtain ⟨b', off', p, rfl, hbw, hp, c0⟩ := (hrd.out hlt).at_ hlt
            have hpm : p ∈ h :: r := List.mem_cons_of_mem _ (List.mem_of_getElem? hp.out)
            have CQ := Lib.hid (fun W (hd : Door W) => CE.out p x W hpm hd)
            have HRE2 : Hid (R = readE x acc (p :: r.drop (k + 1))) := Lib.hid (by rw [HRE.out, g_drop r k p hp.out])
            clear HRE hpm
            cases ho : edgeL x p with
            | none =>
              have HV := Lib.hid (HRE2.out.trans (readE_none ho))
              rw [ho] at CQ
              unfold EdgeP edgeV errV at CQ
              clear ho HRE2
              go_wp2_with fail
              refine (CQ.out _ (HD.out.below hbel.out)).mono ?_
              rintro e w4 ⟨rfl, hb4⟩
              have hdb4 := Lib.hid ((hdb.out.below hb4).alloc (.cells #[.int .i64 0, .int .i64 0, .int .i64 0] 36))
              have hbel4 := Lib.hid (g_chain (g_chain hbel.out hb4) (below_a1 w4 (.cells #[.int .i64 0, .int .i64 0, .int .i64 0] 36)))
              obtain ⟨l0, x0, x1, xf⟩ := hdb4.out
              have xf0 := xf 0
              have xf1 := xf 1
              clear xf hb4 c0
              go_wp2
              refine bodyPost_ret (v := .tuple #[.agg #[.int .i64 0, .slice none 0 0], errV 1]) (by simp [results, Tryd.results17, go_sem, x0, x1, errV]) rfl ?_
              rw [HV.out]
              exact graph_bad 1 (by decide) hbel4.out _ _
            | some e =>
              obtain ⟨f, t, q⟩ := e
              have HFULL := Lib.hid (fun h4 : acc.length = 400 => HRE2.out.trans (readE_full ho h4))
              have HSTEP := Lib.hid (fun h4 : acc.length ≠ 400 => HRE2.out.trans (readE_step ho h4))
              rw [ho] at CQ
              unfold EdgeP edgeV at CQ
              clear ho HRE2
              go_wp2_with fail
              refine (CQ.out _ (HD.out.below hbel.out)).mono ?_
              rintro e w4 ⟨rfl, hb4⟩
              have hb5 := g_chain hb4 (below_a1 w4 (.cells #[.int .i64 f, .int .i64 t, .int .i64 q] 36))
              have hgb4 := Lib.hid (hgb.out.below hb5)
              have hown4 := Lib.hid (own_below hown.out hb5)
              have hgr4 := Lib.hid (grown_below hgr.out hb5)
              have hdb4 := Lib.hid (hdb.out.below hb5)
              have hbel4 := Lib.hid (g_chain hbel.out hb5)
              clear hgb hown hgr hdb hbel hb4 hb5 c0 hrd
              obtain ⟨l0, x0, x1, xf⟩ := hdb4.out
              have xf0 := xf 0
              have xf1 := xf 1
              obtain ⟨gl, g0, g1, gf⟩ := hgb4.out
              have gf0 := gf 0
              have gf1 := gf 1
              clear xf gf
              by_cases h4 : acc.length = 400
              · have HV := Lib.hid (HFULL.out h4)
                go_wp2
                refine bodyPost_ret (v := .tuple #[.agg #[.int .i64 0, .slice none 0 0], errV 2]) (by simp [results, Tryd.results17, go_sem, x0, x1, errV]) rfl ?_
                rw [HV.out]
                exact graph_bad 2 (by decide) hbel4.out _ _
              · have HV := Lib.hid (HSTEP.out h4)
                have hne : ((acc.length : Int) == 400) = false := by simp; omega
                have HNE : Hid ((Value.slice A acc.length ca).ownBlock ≠ some w1.heap.size) := Lib.hid (fun hh => by have := (hown4.out.lt _ hh).1; omega)
                have hW4 : (w4.alloc (.cells #[.int .i64 f, .int .i64 t, .int .i64 q] 36)).heap.size = w4.heap.size + 1 := by simp
                go_wp2_with (at_builtin; refine wpList_append_any _ rfl (.tmp 55) (.tmp 57) 22 rfl W0.heap.size 36 i0 _ 3 24 Tryd.underlying22 hi hz0 hz1 hz2 rfl (by omega) (.slice A acc.length ca) acc.length (acc.flatMap GE.cells) rfl (hown4.out.alloc _) (w4.heap.size + 1 + 1) (some ⟨w4.heap.size + 1, 0, none⟩) 1 1 [.int .i64 f, .int .i64 t, .int .i64 q] rfl (three_reads _ _ _ _ _ _ hW4.symm) (GE.cells_one ⟨f, t, q⟩) (by simp only [maxLen]; omega) (by omega) (by have := hgr4.out.size; simp at this ⊢; omega) ?_; intro v3 w5 hown3 hg3 hat3; obtain ⟨A3, c3, rfl, hnc3⟩ := own_formG hown3; have hgb5 : DBox w5 w1.heap.size (.int .i64 x) (.slice A acc.length ca) := (hgb4.out.alloc _).grown hg3 HNE.out; obtain ⟨gl5, g50, g51, gf5⟩ := hgb5; have g5f := gf5 1)
                have HG5 : Hid (W0.grownBy w5 (some w1.heap.size)) := Lib.hid (grown_up (grown_below hgr4.out (below_a1 _ _)) hg3 (fun j hj => (hown4.out.lt j hj).1))
                have HO5 := Lib.hid (own_lowG hown3 (p := ⟨w1.heap.size, 1, none⟩) hg0 (.slice A3 (acc.length + 1) c3))
                have HD5 := Lib.hid (DBox.set1 ⟨gl5, g50, g51, gf5⟩ (.slice A3 (acc.length + 1) c3))
                clear hg3 hown3 hat3 g50 g51 gf5 g5f
                go_roundw
                case rel => exact ⟨k + 1, acc ++ [⟨f, t, q⟩], A3, c3, by omega, by go_num, HV, by rw [List.length_append]; simp; omega, Lib.hid (by rw [List.length_append]; exact HD5.out), Lib.hid (by rw [List.length_append, flat_snocG]; exact HO5.out), Lib.hid (grown_set HG5.out _)⟩
                case measure => simp [intOf]; omega
          · obtain rfl : k = m := by omega
            have HV : Hid (R = ⟨x, acc, 0⟩) := Lib.hid (by rw [HRE.out, List.drop_of_length_le (by have := hml.out; omega)]; rfl)
            obtain ⟨l0, x0, x1, xf⟩ := hdb.out
            have xf0 := xf 0
            have xf1 := xf 1
            obtain ⟨gl, g0, g1, gf⟩ := hgb.out
            have gf0 := gf 0
            have gf1 := gf 1
            clear xf gf
            go_wp2
            refine bodyPost_ret (v := .tuple #[.agg #[.int .i64 x, .slice A acc.length ca], .nilIface]) (by simp [results, Tryd.results17, go_sem, x0, x1]) rfl ?_
            rw [HV.out]
            exact graph_fine hbel.out hown.out rfl (by omega) _ _
end Go.Proofs.YtggfjnmplokccaaDoor
