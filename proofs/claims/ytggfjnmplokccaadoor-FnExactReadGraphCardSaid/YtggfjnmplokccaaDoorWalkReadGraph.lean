/- The walk of the law FnExactReadGraph: it returns true and writes nothing that was there, given that the library's variables hold what their text lays. -/
import Derived.Test.YtggfjnmplokccaaDoorReadS
import Derived.Test.YtggfjnmplokccaaDoorReadG
import Derived.Test.YtggfjnmplokccaaDoorGrHeld
namespace Go.Proofs.YtggfjnmplokccaaDoor
open Go.RowKit

theorem SlG.other {w w' : World} {A : Option Addr} {n : Nat} {es : List GE} {row : Option Nat} (h : SlG w A n es) (hg : w.grownBy w' row) (hr : ∀ b off sp, A = some ⟨b, off, sp⟩ → some b ≠ row) : SlG w' A n es := by
  refine ⟨h.len, h.row.1, fun hn => ?_⟩
  obtain ⟨b, off, e, hb, hc⟩ := h.row.lies hn
  have := hg.size
  exact ⟨b, off, e, by omega, fun j u hu => (World.cell?_of_block (hg.block b hb (hr _ _ _ e))).trans (hc j u hu)⟩

set_option maxRecDepth 20000 in
set_option maxHeartbeats 4000000 in
theorem walkReadGraph (s : ByteArray) (w : World) (hs0 : s.size ≤ 9223372036854775807) (hd : Door w) :
    Calls Tryd.prog 3 #[.string s] w fun e w' => e = .returned (.bool true) ∧ Below w.heap.size w w' := by
  by_cases hbig : s.size ≤ 1048576
  · have CS := Lib.hid (specRead s w hbig)
    have CI := Lib.hid (fun W (hd : Door W) => implRead s W hbig hd)
    have hlen := readG_len s
    unfold ReadRes at CS CI
    generalize readG s = R at CS CI hlen
    obtain ⟨N, es, cc⟩ := R
    simp only at CS CI hlen
    have HL : Hid (es.length ≤ 400) := Lib.hid hlen
    obtain ⟨n, hn⟩ : ∃ n, n = es.length := ⟨_, rfl⟩
    simp only [← hn] at CS CI hlen
    have HN := Lib.hid hn
    have CE := Lib.hid (fun A B c d W (h1 : SlG W A n es) (h2 : SlG W B n es) => eqGraph_any N A B n c d es W h1 h2 (by omega))
    have CM := Lib.hid (fun A c lo W (ho : W.ownsRow lo 36 3 (.slice A n c) n (es.flatMap GE.cells)) => markGraphO_any N A n c lo 1 es W ho HN.out.symm (by omega) (by omega))
    have CH := Lib.hid (fun A c W (h : SlG W A n (markG 1 es)) => heldGraph_any N A n c 1 es W h (by omega) (by omega))
    have HD := Lib.hid hd
    clear hn hd HL
    go_enter Tryd.func3, Tryd.ntmps3
    go_wp2_with fail
    refine CS.out.mono ?_
    rintro e w1 ⟨A1, c1, rfl, ho1, hb1⟩
    have B1 := Lib.hid (NBox.new w1 N A1 n c1 24)
    have HB1 := Lib.hid (g_chain hb1 (below_a1 w1 (.cells #[.int .i64 N, .slice A1 n c1] 24)))
    have HO1 := Lib.hid (own_below ho1 (below_a1 w1 (.cells #[.int .i64 N, .slice A1 n c1] 24)))
    have hz1 : (w1.alloc (.cells #[.int .i64 N, .slice A1 n c1] 24)).heap.size = w1.heap.size + 1 := by simp
    clear ho1 hb1
    go_wp2_with fail
    refine (CI.out _ (HD.out.below HB1.out)).mono ?_
    generalize w1.alloc (.cells #[.int .i64 N, .slice A1 n c1] 24) = W1 at B1 HB1 HO1 hz1 ⊢
    rintro e w2 ⟨A2, c2, rfl, ho2, hb2⟩
    have hle := HB1.out.size
    have B2 := Lib.hid (B1.out.below (g_chain hb2 (below_a1 w2 (.cells #[.int .i64 N, .slice A2 n c2] 24))))
    have X2 := Lib.hid (NBox.new w2 N A2 n c2 24)
    have HB2 := Lib.hid (g_chain HB1.out (g_chain hb2 (below_a1 w2 (.cells #[.int .i64 N, .slice A2 n c2] 24))))
    have R2 := Lib.hid ((SlG.of_own HO1.out HN.out.symm).below (g_chain hb2 (below_a1 w2 (.cells #[.int .i64 N, .slice A2 n c2] 24))))
    have HO2 := Lib.hid (own_below ho2 (below_a1 w2 (.cells #[.int .i64 N, .slice A2 n c2] 24)))
    have HNE := Lib.hid (ne_of_before HO1.out ho2 (Nat.le_refl _))
    have HX : Hid ((Value.slice A2 n c2).ownBlock ≠ some w2.heap.size ∧ (Value.slice A2 n c2).ownBlock ≠ some w1.heap.size) := Lib.hid ⟨fun hh => by have := (ho2.lt _ hh).2; omega, fun hh => by have := (ho2.lt _ hh).1; omega⟩
    clear ho2 hb2 B1 HB1
    obtain ⟨l0, c00, c01⟩ := B2.out
    obtain ⟨l1, c10, c11⟩ := X2.out
    go_wp2_with fail
    refine (CE.out A2 A1 c2 c1 _ (SlG.of_own HO2.out HN.out.symm) R2.out).mono ?_
    rintro e w3 ⟨rfl, hb3⟩
    have B3 := Lib.hid (B2.out.below hb3)
    have X3 := Lib.hid (X2.out.below hb3)
    have HB3 := Lib.hid (g_chain HB2.out hb3)
    have R3 := Lib.hid (R2.out.below hb3)
    have HO3 := Lib.hid (own_below HO2.out hb3)
    clear hb3 B2 X2 HB2 R2 HO2 l0 l1 c00 c01 c10 c11 HO1
    obtain ⟨l0, c00, c01⟩ := B3.out
    obtain ⟨l1, c10, c11⟩ := X3.out
    go_wp2_with fail
    refine (CM.out A2 c2 _ _ HO3.out).mono ?_
    rintro e w4 ⟨rfl, ho4, hg4⟩
    have B4 := Lib.hid (B3.out.keep hg4.size (hg4.block _ B3.out.lt (fun hh => HX.out.2 hh.symm)))
    have X4 := Lib.hid (X3.out.keep hg4.size (hg4.block _ X3.out.lt (fun hh => HX.out.1 hh.symm)))
    have HB4 : Hid (Below w.heap.size w w4) := Lib.hid (HB3.out.grown hg4 HB3.out.size (fun q hq => by have h1 := (HO3.out.lt q hq).1; have h2 := HB3.out.size; omega))
    have R4 := Lib.hid (R3.out.other hg4 HNE.out)
    have HO4 := Lib.hid ho4
    clear ho4 hg4 B3 X3 HB3 R3 HO3 l0 l1 c00 c01 c10 c11
    obtain ⟨l0, c00, c01⟩ := B4.out
    obtain ⟨l1, c10, c11⟩ := X4.out
    have hpos : ¬ (1 + 3 * (n : Int) < 0) := by omega
    have R4m := Lib.hid (show SlG w4 A2 n (markG 1 es) from SlG.of_own HO4.out (by rw [markG_len]; exact HN.out.symm))
    go_wp2_with fail
    refine (CH.out A2 c2 _ R4m.out).mono ?_
    rintro e w5 ⟨rfl, hb5⟩
    have B5 := Lib.hid (B4.out.below hb5)
    have X5 := Lib.hid (X4.out.below hb5)
    have HB5 := Lib.hid (g_chain HB4.out hb5)
    have R5 := Lib.hid (R4.out.below hb5)
    have R5m := Lib.hid (R4m.out.below hb5)
    clear hb5 B4 X4 HB4 R4 R4m HO4 l0 l1 c00 c01 c10 c11
    go_wp2_with fail
    refine (CI.out _ (HD.out.below HB5.out)).mono ?_
    rintro e w6 ⟨A6, c6, rfl, ho6, hb6⟩
    have hb6' := g_chain hb6 (below_a1 w6 (.cells #[.int .i64 N, .slice A6 n c6] 24))
    have X6 := Lib.hid (NBox.new w6 N A6 n c6 24)
    have B6 := Lib.hid (B5.out.below hb6')
    have Y6 := Lib.hid (X5.out.below hb6')
    have HB6 := Lib.hid (g_chain HB5.out hb6')
    have R6 := Lib.hid (R5.out.below hb6')
    have R6m := Lib.hid (R5m.out.below hb6')
    have S6 := Lib.hid (SlG.of_own (own_below ho6 (below_a1 w6 (.cells #[.int .i64 N, .slice A6 n c6] 24))) HN.out.symm)
    clear hb6 hb6' ho6 B5 X5 HB5 R5 R5m
    obtain ⟨l0, c00, c01⟩ := B6.out
    obtain ⟨l1, c10, c11⟩ := Y6.out
    obtain ⟨l2, c20, c21⟩ := X6.out
    go_wp2_with fail
    refine (CE.out A6 A1 c6 c1 _ S6.out R6.out).mono ?_
    rintro e w7 ⟨rfl, hb7⟩
    have Y7 := Lib.hid (Y6.out.below hb7)
    have HB7 := Lib.hid (g_chain HB6.out hb7)
    have R7m := Lib.hid (R6m.out.below hb7)
    clear hb7 l0 l1 l2 c00 c01 c10 c11 c20 c21 B6 Y6 X6 HB6 R6 R6m S6
    obtain ⟨l1, c10, c11⟩ := Y7.out
    go_wp2_with fail
    refine (CH.out A2 c2 _ R7m.out).mono ?_
    rintro e w8 ⟨rfl, hb8⟩
    have HB8 := Lib.hid (g_chain HB7.out hb8)
    clear hb8
    go_wp2
    go_ret
    exact ⟨rfl, HB8.out⟩
  · clear hd
    go_enter Tryd.func3, Tryd.ntmps3
    go_wp2
    go_ret
    exact ⟨rfl, Below.refl _ _⟩
end Go.Proofs.YtggfjnmplokccaaDoor
