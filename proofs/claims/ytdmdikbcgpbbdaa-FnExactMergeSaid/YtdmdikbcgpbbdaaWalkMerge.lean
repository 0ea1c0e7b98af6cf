/- The walk of the law FnExactMerge: it returns true and writes nothing that was there. -/
import Derived.Test.YtdmdikbcgpbbdaaMergeS
import Derived.Test.YtdmdikbcgpbbdaaMergeI
import Derived.Test.YtdmdikbcgpbbdaaBatOwn
import Derived.Test.YtdmdikbcgpbbdaaBatLaw
import Derived.Test.YtdmdikbcgpbbdaaRecEq
import Derived.Test.YtdmdikbcgpbbdaaRecHeld
namespace Go.Proofs.Ytdmdikbcgpbbdaa
open Go.RowKit

set_option maxRecDepth 20000 in
set_option maxHeartbeats 8000000 in
theorem walkMerge (A : Option Addr) (n c : Nat) (bs : List BE) (w : World) (hin : BatsIn w A n c bs) :
    Calls Try.prog 9 #[.slice A n c] w fun e w' => e = .returned (.bool true) ∧ Below w.heap.size w w' := by
  have CZ := Lib.hid (fun W (h : SlT W A n bs) => szBats_any A n c bs 1048576 W h hin.l hin.e (by omega) (by omega))
  have HS := Lib.hid hin.g
  by_cases hb : ((n + sumN bs : Nat) : Int) ≤ 1048576
  · rw [leftG_pos hb] at CZ
    have hp : (0 : Int) ≤ 1048576 - ((n + sumN bs : Nat) : Int) := by omega
    generalize (1048576 : Int) - ((n + sumN bs : Nat) : Int) = q at CZ hp
    have hts := total_sum (bs := bs) rfl (fun d hd => (hin.g.each d hd).rd.len)
    have hnl : (bs.map BE.es).length = n := by rw [List.length_map]; exact hin.g.len
    have CT := Lib.hid (fun W (h : Below w.heap.size w W) => toBats_any A n c bs W (HS.out.below h) (by omega) (fun e he => by
      have := mem_sum (List.mem_map_of_mem (f := BE.n) he)
      unfold sumN at hb
      omega))
    have hl1 : (bs.map BE.es).length ≤ 1048576 := by omega
    have hl2 : totalR (bs.map BE.es) ≤ 1048576 := by omega
    have hl3 := mergeAll_len (bs.map BE.es)
    generalize bs.map BE.es = ls at CT hl1 hl2 hl3 hnl
    have HX1 := Lib.hid hl1
    have HX2 := Lib.hid hl2
    have CS : Hid (∀ W A n c b, SlT W A n b → b.map BE.es = ls → Calls Try.prog 43 #[.slice A n c] W (MadeRc W (mergeAll ls))) := Lib.hid (fun W A n c b h hx => by
      subst hx
      exact specMerge A n c b W h (by have := h.len; simp at hl1; omega) hl2)
    have CI : Hid (∀ W A n c b, SlT W A n b → n ≤ c → b.map BE.es = ls → Calls Try.prog 45 #[.slice A n c] W (MadeRc W (mergeAll ls))) := Lib.hid (fun W A n c b h hc hx => by
      subst hx
      exact implMerge A n c b W h hc (by have := h.len; simp at hl1; omega) hl2)
    have hxl : (mergeAll ls).length ≤ 2097152 := by omega
    generalize mergeAll ls = xs at CS CI hxl
    have CQ := Lib.hid (fun W A A' c c' (h1 : SlG W A xs.length xs) (h2 : SlG W A' xs.length xs) => eqRecs_any A A' xs.length c c' xs W h1 h2 hxl)
    have CK := Lib.hid (fun W lo A c (h : W.ownsRow lo 30 3 (.slice A xs.length c) xs.length (xs.flatMap GE.cells)) => (markRecs_any A xs.length c lo 1 xs W h rfl hxl (by omega)).mono fun _ _ h => MarkedRc.to3 h)
    have CH := Lib.hid (fun W A c (h : SlG W A xs.length (markG 1 xs)) => heldRecs_any A xs.length c 1 xs W h hxl (by omega))
    have HML := Lib.hid (markG_len xs 1)
    have hmm : (0 : Int) ≤ ((1 + 3 * xs.length : Nat) : Int) := by omega
    generalize 1 + 3 * xs.length = mm at CK CH hmm
    clear hin hb hts hl1 hl2 hl3 hxl hnl
    go_enter Try.func9, Try.ntmps9
    go_wp2_with fail
    refine (CZ.out _ HS.out).mono ?_
    rintro e wa ⟨rfl, hba⟩
    have HA := Lib.hid hba
    clear hba
    go_wp2_with fail
    refine (CT.out _ HA.out).mono ?_
    rintro e wb ⟨A1, n1, c1, b1, rfl, ho1, hx1, hbb⟩
    have HB := Lib.hid (g_chain HA.out hbb)
    have D1 := Lib.hid ho1.sl
    have XB1 := Lib.hid hx1
    clear hbb ho1 hx1
    go_wp2_with fail
    refine (CS.out _ _ _ _ _ D1.out XB1.out).mono ?_
    rintro e wc ⟨Aw, cw, rfl, how, hbc⟩
    have W2 := Lib.hid how
    have HC := Lib.hid (g_chain HB.out hbc)
    clear hbc how
    go_wp2_with fail
    refine (CT.out _ HC.out).mono ?_
    rintro e wd ⟨A2, n2, c2, b2, rfl, ho2, hx2, hbd⟩
    have X3 := Lib.hid ho2
    have XX := Lib.hid hx2
    have SX := Lib.hid (ho2.small hx2 HX1.out HX2.out)
    have hn1 : n2 ≤ 2097152 := by have := SX.out.c; omega
    have HN2 : Hid (∀ e ∈ b2, e.n ≤ 2097152) := Lib.hid (fun e he => by have := SX.out.e e he; omega)
    have HK8 : Hid (endT 1 b2 ≤ 8388608) := Lib.hid (by have := SX.out.s; omega)
    obtain ⟨kk, hkk⟩ : ∃ kk, endT 1 b2 = kk := ⟨_, rfl⟩
    have HM1 := Lib.hid (fun lo W (h : OwnT W lo A2 n2 c2 b2) => markBats_any A2 n2 c2 lo 1 b2 W h hn1 HN2.out HK8.out)
    rw [hkk] at HM1
    have hkx : (0 : Int) ≤ (kk : Int) := by omega
    have W3 := Lib.hid (own_below W2.out hbd)
    have HD := Lib.hid (g_chain HC.out hbd)
    have hcd : wc.heap.size ≤ wd.heap.size := hbd.size
    have K3 := Lib.hid (bat_cap ho2.row)
    clear hbd ho2 hx2 hkk
    go_wp2_with fail
    refine (CI.out _ _ _ _ _ X3.out.sl K3.out XX.out).mono ?_
    rintro e we ⟨Ag, cg, rfl, hog, hbe⟩
    have G4 := Lib.hid hog
    have X4 := Lib.hid (X3.out.below hbe)
    have W4 := Lib.hid (own_below W3.out hbe)
    have HE := Lib.hid (g_chain HD.out hbe)
    clear hbe hog
    go_wp2_with fail
    refine (CQ.out _ _ _ _ _ (SlG.of_own G4.out rfl) (SlG.of_own W4.out rfl)).mono ?_
    rintro e wf ⟨rfl, hbf⟩
    have G5 := Lib.hid (own_below G4.out hbf)
    have X5 := Lib.hid (X4.out.below hbf)
    have W5 := Lib.hid (own_below W4.out hbf)
    have HF := Lib.hid (g_chain HE.out hbf)
    clear hbf
    go_wp2_with fail
    refine (CT.out _ HF.out).mono ?_
    rintro e wg ⟨A3, n3, c3, b3, rfl, ho3, hx3, hbg⟩
    have S3 := Lib.hid (ho3.small hx3 HX1.out HX2.out)
    obtain rfl : n3 = n2 := by rw [S3.out.k, SX.out.k]
    have D5 := Lib.hid ho3.sl
    have X53 := Lib.hid (XX.out.trans hx3.symm)
    have G6 := Lib.hid (own_below G5.out hbg)
    have X6 := Lib.hid (X5.out.below hbg)
    have W6 := Lib.hid (own_below W5.out hbg)
    have HG := Lib.hid (g_chain HF.out hbg)
    clear hbg ho3 hx3
    go_wp2_with fail
    refine (eqBats_any _ _ _ _ _ _ _ _ X6.out.sl D5.out X53.out hn1 HN2.out).mono ?_
    rintro e wh ⟨rfl, hbh⟩
    have G7 := Lib.hid (own_below G6.out hbh)
    have X7 := Lib.hid (X6.out.below hbh)
    have W7 := Lib.hid (own_below W6.out hbh)
    have HH := Lib.hid (g_chain HG.out hbh)
    clear hbh
    go_wp2_with fail
    refine (HM1.out _ _ X7.out).mono ?_
    rintro e wi ⟨rfl, -, hgi⟩
    have W8 := Lib.hid (hgi.own W7.out (fun k hk hs => by have := (W2.out.lt k hk).2; have := (X3.out.blk hs).1; omega))
    have G8 := Lib.hid (hgi.own G7.out (fun k hk hs => by have := (G4.out.lt k hk).1; have := (X3.out.blk hs).2; omega))
    have HI := Lib.hid (HH.out.trans (hgi.toBelow HH.out.size (fun k hk => by have := (X3.out.blk hk).1; have := HC.out.size; omega)))
    clear hgi
    go_wp2_with fail
    refine (CQ.out _ _ _ _ _ (SlG.of_own G8.out rfl) (SlG.of_own W8.out rfl)).mono ?_
    rintro e wj ⟨rfl, hbj⟩
    have G9 := Lib.hid (own_below G8.out hbj)
    have W9 := Lib.hid (own_below W8.out hbj)
    have HJ := Lib.hid (g_chain HI.out hbj)
    clear hbj
    go_wp2_with fail
    refine (CK.out _ _ _ _ G9.out).mono ?_
    rintro e wk ⟨rfl, hok, hgk⟩
    have M10 := Lib.hid (SlG.of_own hok HML.out)
    have W10 := Lib.hid (own_other W9.out hgk (ne_of_before W2.out G9.out hcd))
    have HK := Lib.hid (HJ.out.grown hgk HJ.out.size (fun j hj => by have := (G9.out.lt j hj).1; have := HC.out.size; omega))
    clear hok hgk
    go_wp2_with fail
    refine (CH.out _ _ _ M10.out).mono ?_
    rintro e wl ⟨rfl, hbl⟩
    have M11 := Lib.hid (M10.out.below hbl)
    have W11 := Lib.hid (own_below W10.out hbl)
    have HL := Lib.hid (g_chain HK.out hbl)
    clear hbl
    go_wp2_with fail
    refine (CT.out _ HL.out).mono ?_
    rintro e wm ⟨A4, n4, c4, b4, rfl, ho4, hx4, hbm⟩
    have M12 := Lib.hid (M11.out.below hbm)
    have W12 := Lib.hid (own_below W11.out hbm)
    have D12 := Lib.hid ho4.sl
    have K12 := Lib.hid (bat_cap ho4.row)
    have XX4 := Lib.hid hx4
    have HM := Lib.hid (g_chain HL.out hbm)
    clear hbm ho4 hx4
    go_wp2_with fail
    refine (CI.out _ _ _ _ _ D12.out K12.out XX4.out).mono ?_
    rintro e wn ⟨Ah, ch, rfl, hoh, hbn⟩
    have GH := Lib.hid (SlG.of_own hoh rfl)
    have M13 := Lib.hid (M12.out.below hbn)
    have W13 := Lib.hid (own_below W12.out hbn)
    have HN := Lib.hid (g_chain HM.out hbn)
    clear hbn hoh
    go_wp2_with fail
    refine (CQ.out _ _ _ _ _ GH.out (SlG.of_own W13.out rfl)).mono ?_
    rintro e wo ⟨rfl, hbo⟩
    have M14 := Lib.hid (M13.out.below hbo)
    have HO := Lib.hid (g_chain HN.out hbo)
    clear hbo
    go_wp2_with fail
    refine (CH.out _ _ _ M14.out).mono ?_
    rintro e wp ⟨rfl, hbp⟩
    go_wp2
    go_ret
    exact ⟨rfl, g_chain HO.out hbp⟩
  · rw [leftG_neg (by omega)] at CZ
    clear hin hb
    go_enter Try.func9, Try.ntmps9
    go_wp2_with fail
    refine (CZ.out _ HS.out).mono ?_
    rintro e wa ⟨rfl, hba⟩
    go_wp2
    go_ret
    exact ⟨rfl, hba⟩
end Go.Proofs.Ytdmdikbcgpbbdaa
