/- The walk of the law FnExactJoined: it returns true and writes nothing that was there. -/
import Derived.Test.YtbfdhlpncblahaaJoinS
import Derived.Test.YtbfdhlpncblahaaJoinI
import Derived.Test.YtbfdhlpncblahaaHeOwn
import Derived.Test.YtbfdhlpncblahaaHeLaw
import Derived.Test.YtbfdhlpncblahaaHeEq
import Derived.Test.YtbfdhlpncblahaaGrEq
import Derived.Test.YtbfdhlpncblahaaGrHeld
import Derived.Test.YtbfdhlpncblahaaGraph
namespace Go.Proofs.Ytbfdhlpncblahaa
open Go.RowKit

theorem joinE_len (N : Int) (l : List SD) : (joinE N l).length ≤ 400 := by
  unfold joinE
  split
  · rename_i h
    unfold joinB indsOk at h
    rw [Bool.and_eq_true, Bool.and_eq_true, Bool.and_eq_true] at h
    have := of_decide_eq_true h.2.1.1
    simpa [edgesJ] using this
  · simp

set_option maxRecDepth 20000 in
set_option maxHeartbeats 8000000 in
theorem walkJoined (N : Int) (A : Option Addr) (n c : Nat) (bs : List HE) (w : World) (_hN : (Lit.int .i64 N).wf = true) (hin : HsIn w A n c bs) :
    Calls Try.prog 5 #[.int .i64 N, .slice A n c] w fun e w' => e = .returned (.bool true) ∧ Below w.heap.size w w' := by
  have CZ := Lib.hid (fun W (h : Below w.heap.size w W) => szHs_any A n c bs 1048576 W (hin.g.below h) hin.l hin.e (by omega) (by omega))
  by_cases hb : ((n + sumH bs : Nat) : Int) ≤ 1048576
  · rw [leftG_pos hb] at CZ
    have hp : (0 : Int) ≤ 1048576 - ((n + sumH bs : Nat) : Int) := by omega
    generalize (1048576 : Int) - ((n + sumH bs : Nat) : Int) = q at CZ hp
    have hlen : ∀ d ∈ bs, d.es.length = d.n := fun d hd => (hin.g.each d hd).rd.len
    have hsz : (sdL bs).length + (flatK (sdL bs)).length ≤ 1048576 := by
      rw [← sum_flat (bs := bs) (ls := sdL bs) rfl hlen, sdL_len, hin.g.len]
      omega
    have hsm := HSm.of (M := 1048576) hin.g.len hlen rfl hsz
    have CT : Hid (∀ W, Below w.heap.size w W → Calls Try.prog 30 #[.slice A n c] W (MadeHs W (sdL bs))) := Lib.hid (fun W h => toHs_any A n c bs W (hin.g.below h) (by have := hsm.c; omega) (fun e he => by have := hsm.e e he; omega))
    have HSZ := Lib.hid hsz
    generalize hls : sdL bs = ls at CT HSZ
    have CS : Hid (∀ W A' n' c' bs', SlH W A' n' bs' → bs'.map HE.sd = ls → HSm 1048576 n' bs' ls → Calls Try.prog 29 #[.int .i64 N, .slice A' n' c'] W (MadeJ W (joinN N ls) (joinE N ls) (joinB N ls))) := Lib.hid (fun W A' n' c' bs' h hx hs => by
      have h9 := specJoined N A' n' c' bs' W h hs.c hs.e
      rw [show sdL bs' = ls from hx] at h9
      exact h9)
    have CI : Hid (∀ W A' n' c' bs', SlH W A' n' bs' → bs'.map HE.sd = ls → HSm 1048576 n' bs' ls → Calls Try.prog 31 #[.int .i64 N, .slice A' n' c'] W (MadeJ W (joinN N ls) (joinE N ls) (joinB N ls))) := Lib.hid (fun W A' n' c' bs' h hx hs => by
      have h9 := implJoined N A' n' c' bs' W h hs.c hs.e
      rw [show sdL bs' = ls from hx] at h9
      exact h9)
    have hel := joinE_len N ls
    generalize joinN N ls = jn at CS CI
    generalize joinE N ls = je at CS CI hel
    generalize joinB N ls = jb at CS CI
    have hjb : (jb == jb) = true := by simp
    have CE := Lib.hid (fun W A c A' c' (h1 : SlG W A je.length je) (h2 : SlG W A' je.length je) => eqGraph_any jn A A' je.length c c' je W h1 h2 (by omega))
    have CM := Lib.hid (fun W lo A c (h : W.ownsRow lo 91 3 (.slice A je.length c) je.length (je.flatMap GE.cells)) => markGraphO_any jn A je.length c lo 1 je W h rfl (by omega) (by omega))
    have CH := Lib.hid (fun W A c (h : SlG W A je.length (markG 1 je)) => heldGraph_any jn A je.length c 1 je W h (by omega) (by omega))
    have hkx : (0 : Int) ≤ ((1 + 3 * je.length : Nat) : Int) := by omega
    generalize 1 + 3 * je.length = kk at CM CH hkx
    clear hin hb hsz hsm hlen hls
    go_enter Try.func5, Try.ntmps5
    go_wp2_with fail
    refine (CZ.out _ (Below.refl _ _)).mono ?_
    rintro e wa ⟨rfl, hba⟩
    have HA := Lib.hid hba
    clear hba
    go_wp2_with fail
    refine (CT.out _ HA.out).mono ?_
    rintro e wb ⟨A1, n1, c1, b1, rfl, ho1, hx1, hbb⟩
    have S1 := Lib.hid (ho1.small hx1 HSZ.out)
    have D1 := Lib.hid ho1.sl
    have X1 := Lib.hid hx1
    have HB := Lib.hid (g_chain HA.out hbb)
    clear hbb ho1 hx1
    go_wp2_with fail
    refine (CS.out _ _ _ _ _ D1.out X1.out S1.out).mono ?_
    rintro e wc ⟨Aw, cw, rfl, how, hbc⟩
    have HC := Lib.hid (g_chain HB.out hbc)
    have W2 := Lib.hid how
    have hlc : w.heap.size ≤ wc.heap.size := HC.out.size
    clear hbc how
    have HC1 := Lib.hid (g_chain HC.out (below_a1 wc (.cells #[.int .i64 jn, .slice Aw je.length cw] 42)))
    have BW := Lib.hid (NBox.new wc jn Aw je.length cw 42)
    have W2b := Lib.hid (own_below W2.out (below_a1 wc (.cells #[.int .i64 jn, .slice Aw je.length cw] 42)))
    go_wp2_with fail
    refine (CT.out _ HC1.out).mono ?_
    rintro e wd ⟨A2, n2, c2, b2, rfl, ho2, hx2, hbd⟩
    have S2 := Lib.hid (ho2.small hx2 HSZ.out)
    have X2 := Lib.hid hx2
    have G0 := Lib.hid ho2
    have W3 := Lib.hid (own_below W2b.out hbd)
    have BW3 := Lib.hid (BW.out.below hbd)
    have HD := Lib.hid (g_chain HC1.out hbd)
    have hcd : wc.heap.size + 1 ≤ wd.heap.size := by have := hbd.size; simpa using this
    clear hbd ho2 hx2 W2b BW
    go_wp2_with fail
    refine (CI.out _ _ _ _ _ G0.out.sl X2.out S2.out).mono ?_
    rintro e we ⟨Ag, cg, rfl, hog, hbe⟩
    have G4 := Lib.hid hog
    have X4 := Lib.hid (G0.out.below hbe)
    have W4 := Lib.hid (own_below W3.out hbe)
    have BW4 := Lib.hid (BW3.out.below hbe)
    have HE := Lib.hid (g_chain HD.out hbe)
    have hde : wd.heap.size ≤ we.heap.size := hbe.size
    clear hbe hog
    have HBX := Lib.hid (below_a1 we (.cells #[.int .i64 jn, .slice Ag je.length cg] 42))
    have BG5 := Lib.hid (NBox.new we jn Ag je.length cg 42)
    have G5 := Lib.hid (own_below G4.out HBX.out)
    have X5 := Lib.hid (X4.out.below HBX.out)
    have W5 := Lib.hid (own_below W4.out HBX.out)
    have BW5 := Lib.hid (BW4.out.below HBX.out)
    have HE5 := Lib.hid (g_chain HE.out HBX.out)
    obtain ⟨l0, x0, x1⟩ := BW4.out
    go_wp2_with fail
    refine (CE.out _ _ _ _ _ (SlG.of_own G5.out rfl) (SlG.of_own W5.out rfl)).mono ?_
    rintro e wf ⟨rfl, hbf⟩
    have G6 := Lib.hid (own_below G5.out hbf)
    have X6 := Lib.hid (X5.out.below hbf)
    have W6 := Lib.hid (own_below W5.out hbf)
    have BG6 := Lib.hid (BG5.out.below hbf)
    have BW6 := Lib.hid (BW5.out.below hbf)
    have HF := Lib.hid (g_chain HE5.out hbf)
    have hef : we.heap.size + 1 ≤ wf.heap.size := by have := hbf.size; simpa using this
    have hn2 : n2 ≤ 2097152 := by have := S2.out.c; omega
    have HN2 : Hid (∀ e ∈ b2, e.n ≤ 2097152) := Lib.hid (fun e he => by have := S2.out.e e he; omega)
    have HK8 : Hid (endH 1 b2 ≤ 16777216) := Lib.hid (by have := S2.out.s; omega)
    have HM1 := Lib.hid (fun lo W (h : OwnH W lo A2 n2 c2 b2) => markHs_any A2 n2 c2 lo 1 b2 W h hn2 HN2.out HK8.out)
    generalize endH 1 b2 = m1 at HM1 HK8
    have hm1 : (0 : Int) ≤ (m1 : Int) := by omega
    clear hbf l0 x0 x1 G5 X5 W5 BG5 BW5
    go_wp2_with fail
    refine (CT.out _ HF.out).mono ?_
    rintro e wg ⟨A3, n3, c3, b3, rfl, ho3, hx3, hbg⟩
    obtain rfl : n3 = n2 := by rw [(ho3.small hx3 HSZ.out).k, S2.out.k]
    have D3 := Lib.hid ho3.sl
    have X3 := Lib.hid (X2.out.trans hx3.symm)
    have G7 := Lib.hid (own_below G6.out hbg)
    have X7 := Lib.hid (X6.out.below hbg)
    have W7 := Lib.hid (own_below W6.out hbg)
    have BG7 := Lib.hid (BG6.out.below hbg)
    have BW7 := Lib.hid (BW6.out.below hbg)
    have HG := Lib.hid (g_chain HF.out hbg)
    clear hbg ho3 hx3
    go_wp2_with fail
    refine (eqHs_any _ _ _ _ _ _ _ _ X7.out.sl D3.out X3.out hn2 HN2.out).mono ?_
    rintro e wh ⟨rfl, hbh⟩
    have G8 := Lib.hid (own_below G7.out hbh)
    have X8 := Lib.hid (X7.out.below hbh)
    have W8 := Lib.hid (own_below W7.out hbh)
    have BG8 := Lib.hid (BG7.out.below hbh)
    have BW8 := Lib.hid (BW7.out.below hbh)
    have HH := Lib.hid (g_chain HG.out hbh)
    clear hbh
    go_wp2_with fail
    refine (HM1.out _ _ X8.out).mono ?_
    rintro e wi ⟨rfl, -, hgi⟩
    have HBL : Hid (∀ k, blkH A2 n3 c2 b2 k → wc.heap.size + 1 ≤ k ∧ k < wd.heap.size) := Lib.hid (fun k hk => by have := G0.out.blk hk; simp at this; omega)
    have G9 := Lib.hid (hgi.own G8.out (fun k hk hs => by have h1 := (G4.out.lt k hk).1; have h2 := (HBL.out k hs).2; omega))
    have W9 := Lib.hid (hgi.own W8.out (fun k hk hs => by have h1 := (W2.out.lt k hk).2; have h2 := (HBL.out k hs).1; omega))
    have BG9 := Lib.hid (BG8.out.keep hgi.size (hgi.block _ BG8.out.lt (fun hs => by have h2 := (HBL.out _ hs).2; omega)))
    have BW9 := Lib.hid (BW8.out.keep hgi.size (hgi.block _ BW8.out.lt (fun hs => by have h2 := (HBL.out _ hs).1; omega)))
    have HI := Lib.hid (HH.out.trans (hgi.toBelow HH.out.size (fun k hk => by have := (HBL.out k hk).1; omega)))
    clear hgi
    obtain ⟨l0, x0, x1⟩ := BW9.out
    obtain ⟨l1, y0, y1⟩ := BG9.out
    go_wp2_with fail
    refine (CE.out _ _ _ _ _ (SlG.of_own G9.out rfl) (SlG.of_own W9.out rfl)).mono ?_
    rintro e wj ⟨rfl, hbj⟩
    have G10 := Lib.hid (own_below G9.out hbj)
    have W10 := Lib.hid (own_below W9.out hbj)
    have BG10 := Lib.hid (BG9.out.below hbj)
    have BW10 := Lib.hid (BW9.out.below hbj)
    have HJ := Lib.hid (g_chain HI.out hbj)
    clear hbj l0 x0 x1 l1 y0 y1
    obtain ⟨l1, y0, y1⟩ := BG10.out
    go_wp2_with fail
    refine (CM.out _ _ _ _ G10.out).mono ?_
    rintro e wk ⟨rfl, hmk, hgk⟩
    have M11 := Lib.hid (SlG.of_own hmk (by rw [markG_len]))
    have HBG : Hid (∀ k, (Value.slice Ag je.length cg).ownBlock = some k → wd.heap.size ≤ k ∧ k < we.heap.size) := Lib.hid (fun k hk => G4.out.lt k hk)
    have W11 := Lib.hid (W10.out.kept hgk (by
      cases hv : (Value.slice Aw je.length cw).ownBlock with
      | none => exact .inl rfl
      | some k => exact .inr (fun e => by have h1 := (W2.out.lt k hv).2; have h2 := (HBG.out k e.symm).1; omega)))
    have BG11 := Lib.hid (BG10.out.keep hgk.size (hgk.block _ BG10.out.lt (fun e => by have h2 := (HBG.out _ e.symm).2; omega)))
    have BW11 := Lib.hid (BW10.out.keep hgk.size (hgk.block _ BW10.out.lt (fun e => by have h2 := (HBG.out _ e.symm).1; omega)))
    have HK := Lib.hid (HJ.out.grown hgk HJ.out.size (fun j hj => by have h2 := (HBG.out j hj).1; omega))
    clear hmk hgk l1 y0 y1
    obtain ⟨l1, y0, y1⟩ := BG11.out
    go_wp2_with fail
    refine (CH.out _ _ _ M11.out).mono ?_
    rintro e wl ⟨rfl, hbl⟩
    have M12 := Lib.hid (M11.out.below hbl)
    have W12 := Lib.hid (own_below W11.out hbl)
    have BG12 := Lib.hid (BG11.out.below hbl)
    have BW12 := Lib.hid (BW11.out.below hbl)
    have HL := Lib.hid (g_chain HK.out hbl)
    clear hbl l1 y0 y1
    go_wp2_with fail
    refine (CT.out _ HL.out).mono ?_
    rintro e wm ⟨A4, n4, c4, b4, rfl, ho4, hx4, hbm⟩
    have S4 := Lib.hid (ho4.small hx4 HSZ.out)
    have D4 := Lib.hid ho4.sl
    have X9 := Lib.hid hx4
    have M13 := Lib.hid (M12.out.below hbm)
    have W13 := Lib.hid (own_below W12.out hbm)
    have BG13 := Lib.hid (BG12.out.below hbm)
    have BW13 := Lib.hid (BW12.out.below hbm)
    have HM := Lib.hid (g_chain HL.out hbm)
    clear hbm ho4 hx4
    go_wp2_with fail
    refine (CI.out _ _ _ _ _ D4.out X9.out S4.out).mono ?_
    rintro e wn ⟨Ah, ch, rfl, hoh, hbn⟩
    have HBN := Lib.hid (below_a1 wn (.cells #[.int .i64 jn, .slice Ah je.length ch] 42))
    have H14 := Lib.hid (own_below hoh HBN.out)
    have M14 := Lib.hid ((M13.out.below hbn).below HBN.out)
    have W14 := Lib.hid (own_below (own_below W13.out hbn) HBN.out)
    have BG14 := Lib.hid ((BG13.out.below hbn).below HBN.out)
    have BW14 := Lib.hid (BW13.out.below hbn)
    have HN := Lib.hid (g_chain (g_chain HM.out hbn) HBN.out)
    clear hbn hoh
    obtain ⟨l0, x0, x1⟩ := BW14.out
    go_wp2_with fail
    refine (CE.out _ _ _ _ _ (SlG.of_own H14.out rfl) (SlG.of_own W14.out rfl)).mono ?_
    rintro e wo ⟨rfl, hbo⟩
    have M15 := Lib.hid (M14.out.below hbo)
    have BG15 := Lib.hid (BG14.out.below hbo)
    have HO := Lib.hid (g_chain HN.out hbo)
    clear hbo l0 x0 x1
    obtain ⟨l1, y0, y1⟩ := BG15.out
    go_wp2_with fail
    refine (CH.out _ _ _ M15.out).mono ?_
    rintro e wp ⟨rfl, hbp⟩
    go_wp2
    go_ret
    exact ⟨rfl, g_chain HO.out hbp⟩
  · rw [leftG_neg (by omega)] at CZ
    clear hin hb
    go_enter Try.func5, Try.ntmps5
    go_wp2_with fail
    refine (CZ.out _ (Below.refl _ _)).mono ?_
    rintro e wa ⟨rfl, hba⟩
    go_wp2
    go_ret
    exact ⟨rfl, hba⟩
end Go.Proofs.Ytbfdhlpncblahaa
