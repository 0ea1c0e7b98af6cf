/- The contract of the program's ReadGraph. Condition: at most 2^20 bytes; the library's word length is an int in memory, its table of powers of ten, its two errors and its type 'error' hold what their text lays. -/
import Derived.Test.YtggfjnmplokccaaDoorReadI
namespace Go.Proofs.YtggfjnmplokccaaDoor
open Go.RowKit

theorem readE_code (N : Int) : ∀ (ls : List ByteArray) (acc : List GE), (∃ es, readE N acc ls = ⟨N, es, 0⟩) ∨ ∃ c, c ≠ 0 ∧ readE N acc ls = badG c
  | [], acc => .inl ⟨acc, rfl⟩
  | s :: r, acc => by
    rw [readE]
    split
    · exact .inr ⟨1, by decide, rfl⟩
    · split
      · exact .inr ⟨2, by decide, rfl⟩
      · exact readE_code N r _
theorem parseR_code (ls : List ByteArray) : (∃ N es, parseR ls = ⟨N, es, 0⟩) ∨ ∃ c, c ≠ 0 ∧ parseR ls = badG c := by
  cases ls with
  | nil => exact .inr ⟨1, by decide, rfl⟩
  | cons h r =>
    rw [parse_cons]
    split
    · split
      · exact .inr ⟨2, by decide, rfl⟩
      · rcases readE_code (valB h) r [] with ⟨es, h⟩ | h
        · exact .inl ⟨_, es, h⟩
        · exact .inr h
    · exact .inr ⟨1, by decide, rfl⟩

set_option maxRecDepth 10000 in
set_option maxHeartbeats 4000000 in
theorem implRead (s : ByteArray) (w : World) (hs : s.size ≤ 1048576) (hd : Door w) : Calls Tryd.prog 6 #[.string s] w (ReadRes w (readG s)) := by
  by_cases hbig : 20000 < s.size
  · have HV := Lib.hid (readG_long hbig)
    clear hd
    go_enter Tryd.func6, Tryd.ntmps6
    go_wp2
    refine bodyPost_ret (v := .tuple #[.agg #[.int .i64 0, .slice none 0 0], .int .i64 2]) (by simp [results, Tryd.results6, go_sem]) rfl ?_
    rw [HV.out]
    exact ⟨none, 0, rfl, World.ownsRow_nil _ _ _ _, below_a1 _ _⟩
  · have CL := Lib.hid (fun W (hd : Door W) => implLines s W hs hd.m)
    have hln := linesOf_length s
    have hmem := linesOf_mem s
    have CP := Lib.hid (fun P n c W (hr : RdS W P n (linesOf s)) (hc : n ≤ c) (hd : Door W) => implParse (linesOf s) P n c W hr hc (by have := hr.len; omega) (fun p hp => Nat.le_trans (hmem p hp) hs) hd)
    have HV := Lib.hid (readG_parse hbig)
    have HC := parseR_code (linesOf s)
    generalize readG s = R at HV ⊢
    generalize parseR (linesOf s) = Q at HV CP HC
    obtain rfl : R = Q := HV.out
    generalize linesOf s = ls at CL CP hln hmem
    unfold LinesP at CL
    obtain ⟨n, hn⟩ : ∃ n, n = ls.length := ⟨_, rfl⟩
    rw [← hn] at CL hln
    have HD := Lib.hid hd
    clear hd hmem hn HV
    have D0 := Lib.hid (DBox.new w (.int .i64 0) (.slice none 0 0) 24)
    have HB0 := Lib.hid (below_a1 w (.cells #[.int .i64 0, .slice none 0 0] 24))
    unfold GraphP at CP
    rcases HC with ⟨N, es, rfl⟩ | ⟨cc, hcc, rfl⟩
    · go_enter Tryd.func6, Tryd.ntmps6
      go_wp2_with fail
      refine (CL.out _ (HD.out.below HB0.out)).mono ?_
      rintro e w1 ⟨P, c, rfl, hrd, hc, hb1⟩
      have D1 := Lib.hid (D0.out.below hb1)
      have HB1 := Lib.hid (g_chain HB0.out hb1)
      have HRD := Lib.hid hrd
      clear hrd hb1 D0 HB0
      go_wp2_with fail
      refine (CP.out P n c _ HRD.out hc (HD.out.below HB1.out)).mono ?_
      rintro e w2 ⟨A, ca, rfl, hown, hb2⟩
      simp only [if_true] at hown ⊢
      have hs1 : w.heap.size < w1.heap.size := D1.out.lt
      have D2 := Lib.hid (((D1.out.below hb2).alloc (.cells #[.int .i64 N, .slice A es.length ca] 24)).alloc (.cells #[.int .i64 0] 47))
      have G2 := Lib.hid ((DBox.new w2 (.int .i64 N) (.slice A es.length ca) 24).alloc (.cells #[.int .i64 0] 47))
      have HB2 := Lib.hid (g_chain (g_chain HB1.out hb2) (below_a2 w2 (.cells #[.int .i64 N, .slice A es.length ca] 24) (.cells #[.int .i64 0] 47)))
      have HO2 := Lib.hid (own_below hown (below_a2 w2 (.cells #[.int .i64 N, .slice A es.length ca] 24) (.cells #[.int .i64 0] 47)))
      clear hown hb2 D1 HB1 HRD
      obtain ⟨l0, x0, x1, xf⟩ := D2.out
      have xf0 := xf 0
      have xf1 := xf 1
      obtain ⟨gl, g0, g1, gf⟩ := G2.out
      clear xf gf
      go_wp2_with (go_at_call 19; refine (as_nil _ _).mono ?_; rintro e w3 ⟨rfl, rfl⟩)
      refine bodyPost_ret (v := .tuple #[.agg #[.int .i64 N, .slice A es.length ca], .int .i64 0]) (by simp [results, Tryd.results6, go_sem, x0, x1]) rfl ?_
      exact read_fine HB2.out HO2.out rfl hs1 _ _
    · go_enter Tryd.func6, Tryd.ntmps6
      go_wp2_with fail
      refine (CL.out _ (HD.out.below HB0.out)).mono ?_
      rintro e w1 ⟨P, c, rfl, hrd, hc, hb1⟩
      have D1 := Lib.hid (D0.out.below hb1)
      have HB1 := Lib.hid (g_chain HB0.out hb1)
      have HRD := Lib.hid hrd
      clear hrd hb1 D0 HB0
      go_wp2_with fail
      refine (CP.out P n c _ HRD.out hc (HD.out.below HB1.out)).mono ?_
      rintro e w2 ⟨A, ca, rfl, hown, hb2⟩
      have hif : (if (badG cc).c = 0 then Value.nilIface else errV (badG cc).c) = .iface 47 (.agg #[.int .i64 cc]) := by show (if cc = 0 then _ else _) = _; rw [if_neg hcc]; rfl
      rw [hif]
      have hes : (badG cc).es.length = 0 := rfl
      have hN : (badG cc).N = 0 := rfl
      rw [hes, hN]
      have hs1 : w.heap.size < w1.heap.size := D1.out.lt
      have D2 := Lib.hid (((D1.out.below hb2).alloc (.cells #[.int .i64 0, .slice A 0 ca] 24)).alloc (.cells #[.int .i64 0] 47))
      have HB2 := Lib.hid (g_chain (g_chain HB1.out hb2) (below_a2 w2 (.cells #[.int .i64 0, .slice A 0 ca] 24) (.cells #[.int .i64 0] 47)))
      have hs2 : w.heap.size < w2.heap.size := by have := hb2.size; omega
      have HAS := Lib.hid (as_hit cc ⟨w2.heap.size + 1, 0, none⟩ (.int .i64 0) ((w2.alloc (.cells #[.int .i64 0, .slice A 0 ca] 24)).alloc (.cells #[.int .i64 0] 47)) (HD.out.below HB2.out).y (by simp) (by simp))
      clear hown hb2 D1 HB1 HRD hif hes hN
      have hw : ((w2.alloc (.cells #[.int .i64 0, .slice A 0 ca] 24)).alloc (.cells #[.int .i64 0] 47)).cell? ⟨w2.heap.size + 1, 0, none⟩ = some (.int .i64 0) := by simp
      have hsz : ((w2.alloc (.cells #[.int .i64 0, .slice A 0 ca] 24)).alloc (.cells #[.int .i64 0] 47)).heap.size = w2.heap.size + 2 := by simp
      go_wp2_with fail
      refine HAS.out.mono ?_
      rintro e w3 ⟨rfl, rfl⟩
      clear HAS
      generalize (w2.alloc (.cells #[.int .i64 0, .slice A 0 ca] 24)).alloc (.cells #[.int .i64 0] 47) = W0 at D2 HB2 hsz hw ⊢
      have D4 := Lib.hid (((((D2.out.alloc (.cells #[.pointer (some ⟨w2.heap.size + 1, 0, none⟩)] 49)).alloc (.cells #[.pointer (some ⟨9, 49, none⟩), .pointer (some ⟨W0.heap.size, 0, none⟩), .int .u64 150] 73)).alloc (.cells #[.pointer (some ⟨9, 49, none⟩), .pointer (some ⟨W0.heap.size, 0, none⟩), .int .u64 150] 73)).alloc (.cells #[.int .i64 cc] 47)).far (p := ⟨w2.heap.size + 1, 0, none⟩) (by show w.heap.size ≠ w2.heap.size + 1; omega) (.int .i64 cc))
      have HB4 : Hid (Below w.heap.size w (((((W0.alloc (.cells #[.pointer (some ⟨w2.heap.size + 1, 0, none⟩)] 49)).alloc (.cells #[.pointer (some ⟨9, 49, none⟩), .pointer (some ⟨W0.heap.size, 0, none⟩), .int .u64 150] 73)).alloc (.cells #[.pointer (some ⟨9, 49, none⟩), .pointer (some ⟨W0.heap.size, 0, none⟩), .int .u64 150] 73)).alloc (.cells #[.int .i64 cc] 47)).setCell ⟨w2.heap.size + 1, 0, none⟩ (.int .i64 cc))) := Lib.hid ((g_chain (g_chain (g_chain (g_chain HB2.out (below_a1 _ _)) (below_a1 _ _)) (below_a1 _ _)) (below_a1 _ _)).setCell (p := ⟨w2.heap.size + 1, 0, none⟩) (by show w.heap.size ≤ w2.heap.size + 1; omega) _)
      have hcell : (((((W0.alloc (.cells #[.pointer (some ⟨w2.heap.size + 1, 0, none⟩)] 49)).alloc (.cells #[.pointer (some ⟨9, 49, none⟩), .pointer (some ⟨W0.heap.size, 0, none⟩), .int .u64 150] 73)).alloc (.cells #[.pointer (some ⟨9, 49, none⟩), .pointer (some ⟨W0.heap.size, 0, none⟩), .int .u64 150] 73)).alloc (.cells #[.int .i64 cc] 47)).setCell ⟨w2.heap.size + 1, 0, none⟩ (.int .i64 cc)).cell? ⟨w2.heap.size + 1, 0, none⟩ = some (.int .i64 cc) := World.cell?_setCell_same' _ _ _ (by rw [(g_chain (g_chain (g_chain (below_a1 W0 _) (below_a1 _ _)) (below_a1 _ _)) (below_a1 _ _)).cell (p := ⟨w2.heap.size + 1, 0, none⟩) (by show w2.heap.size + 1 < W0.heap.size; omega), hw]; rfl)
      generalize (((((W0.alloc (.cells #[.pointer (some ⟨w2.heap.size + 1, 0, none⟩)] 49)).alloc (.cells #[.pointer (some ⟨9, 49, none⟩), .pointer (some ⟨W0.heap.size, 0, none⟩), .int .u64 150] 73)).alloc (.cells #[.pointer (some ⟨9, 49, none⟩), .pointer (some ⟨W0.heap.size, 0, none⟩), .int .u64 150] 73)).alloc (.cells #[.int .i64 cc] 47)).setCell ⟨w2.heap.size + 1, 0, none⟩ (.int .i64 cc)) = W5 at D4 HB4 hcell ⊢
      obtain ⟨l0, x0, x1, xf⟩ := D4.out
      have xf0 := xf 0
      have xf1 := xf 1
      clear xf
      go_wp2
      go_region
      all_goals
        go_wp2
        refine bodyPost_ret (v := .tuple #[.agg #[.int .i64 0, .slice none 0 0], .int .i64 cc]) (by simp [results, Tryd.results6, go_sem, x0, x1]) rfl ?_
        first | exact read_bad cc HB4.out _ _ | exact ReadRes.drew (read_bad cc HB4.out _ _)
end Go.Proofs.YtggfjnmplokccaaDoor
