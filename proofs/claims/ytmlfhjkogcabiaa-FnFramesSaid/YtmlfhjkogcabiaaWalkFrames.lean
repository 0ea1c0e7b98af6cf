/- The walk of the law FnFrames: it returns true and writes nothing that was there. -/
import Derived.Test.YtmlfhjkogcabiaaDrawFr
import Derived.Test.YtmlfhjkogcabiaaFrsImpl
namespace Go.Proofs.Ytmlfhjkogcabiaa
open Go.RowKit

theorem slice_top {A : Option Addr} {n c k : Nat} {xs : List Nat} {w : World} (hr : Rd w A n xs) (hk : k ≤ n) (hc : n ≤ c) :
    ∃ A', (∀ W, (Instr.slice 22 (.slice A n c) none (some (.int .i64 (k : Int))) none).run Try.prog W = .ok (.slice A' k c) W) ∧ Rd w A' k (xs.take k) := by
  refine ⟨if c = 0 then A else A.map (·.add (0 * 1)), fun W => ?_, ?_⟩
  · rw [run_slice_h W _ _ _ _ byteElem .i64 (k : Int) (by omega) (by omega), byteElem', byteSize, Int.toNat_natCast]
    show Result.ok (sliced A 0 k c 1) W = _
    unfold sliced
    rw [Nat.sub_zero, Nat.sub_zero]
  · by_cases hz : k = 0
    · subst hz
      rw [List.take_zero]
      exact Rd.nil
    · obtain ⟨b, off, rfl, _, _⟩ := hr.lies (by omega)
      rw [if_neg (by omega)]
      have h := hr.cut (p := 0) (m := k) (by omega)
      rw [List.drop_zero, Nat.add_zero] at h
      exact h
theorem xor8' (a b : Nat) (ha : a < 256) (hb : b < 256) : bits .xor .u8 (a : Int) (b : Int) = ((a ^^^ b : Nat) : Int) := by
  have hx : a ^^^ b < 2 ^ 8 := Nat.xor_lt_two_pow (by omega) (by omega)
  have e8 : ∀ x : Nat, x < 256 → (BitVec.ofInt 8 (x : Int)).toNat = x := fun x hx => by
    rw [BitVec.ofInt_natCast, BitVec.toNat_ofNat]; exact Nat.mod_eq_of_lt (by omega)
  show IntKind.u8.wrap ((BitVec.ofInt 8 (a : Int) ^^^ BitVec.ofInt 8 (b : Int)).toNat : Int) = _
  rw [BitVec.toNat_xor, e8 a ha, e8 b hb]
  exact IntWalk.u8_in _ (by omega)
theorem xor_ne {a b : Nat} (hb : b ≠ 0) : a ^^^ b ≠ a := fun h => by
  have h2 := congrArg (a ^^^ ·) h
  simp only [← Nat.xor_assoc, Nat.xor_self, Nat.zero_xor] at h2
  exact hb h2
theorem row_at {w : World} {lo t size n c : Nat} {A : Option Addr} {cs : List Value} (h : w.ownsRow lo t size (.slice A n c) n cs) (hn : 0 < n) : ∃ g, A = some ⟨g, 0, none⟩ := by
  obtain ⟨g, cap, hv, _⟩ := h.form hn
  injection hv with hv
  exact ⟨g, hv⟩
theorem off_bound : ∀ (l : List (Int × List Nat)), (∀ f ∈ l, FrGood f ∧ f.2.length ≤ 9) → (encAll l).length ≤ 29 * l.length
  | [], _ => by simp [encAll]
  | f :: l, h => by
    have ih := off_bound l (fun x hx => h x (by simp [hx]))
    have h1 := h f (by simp)
    have := h1.1.enc_len
    rw [encAll_cons, List.length_append, List.length_cons]
    omega
theorem enc_step (l : List (Int × List Nat)) (k : Nat) (f : Int × List Nat) (h : l[k]? = some f) : encAll (l.take (k + 1)) = encAll (l.take k) ++ frB f.1 f.2 := by
  obtain ⟨hk, rfl⟩ := List.getElem?_eq_some_iff.1 h
  rw [List.take_succ_eq_append_getElem hk, encAll_append]
  simp [encAll]

set_option maxRecDepth 20000 in
set_option maxHeartbeats 8000000 in
theorem walkFrames (d : Dat) (w : World) (hok : d.Ok w) (hn : d.n ≤ maxLen) :
    Calls Try.prog 4 #[.slice d.A d.n d.c] w fun e w' => e = .returned (.bool true) ∧ Below w.heap.size w w' := by
  unfold maxLen at hn
  by_cases hb : d.n ≤ 1048576
  · have dsz : decide ((1048576 : Int) < (d.n : Int)) = false := by simp; omega
    have dsz' : decide (1048576 < d.n) = false := by simp; omega
    obtain ⟨j0, hj, hy0, hy1, hy2⟩ := info_parts Try.infoByte
    have CMF := Lib.hid (makeFrames d.A d.n d.c d.xs w hok.rd hb)
    have CMN := Lib.hid (fun m W (h : Below w.heap.size w W) (h0 : 0 < m) (h1 : m ≤ 256) => makeNum d.A d.n d.c m d.xs W (hok.rd.below h) hb h0 h1)
    obtain ⟨A0, n0, c0, xs⟩ := d
    simp only at *
    clear hok hn hb
    go_enter Try.func4, Try.ntmps4
    go_wp2_with fail
    refine CMF.out.mono ?_
    rintro e w1 ⟨Al, cl, es, rfl, hel, hgood, hsl, hb1⟩
    obtain ⟨L, hL⟩ : ∃ L, L = es.length := ⟨_, rfl⟩
    rw [← hL] at hel hsl ⊢
    obtain ⟨l, hl⟩ : ∃ l, l = es.map FrE.fr := ⟨_, rfl⟩
    have hll : l.length = L := by rw [hl, List.length_map, hL]
    have HG : Hid (∀ f ∈ l, FrGood f) := Lib.hid (fun f hf => by
      rw [hl] at hf
      obtain ⟨e, he, rfl⟩ := List.mem_map.1 hf
      exact (hgood e he).1)
    have HG9 : Hid (∀ f ∈ l, FrGood f ∧ f.2.length ≤ 9) := Lib.hid (fun f hf => by
      rw [hl] at hf
      obtain ⟨e, he, rfl⟩ := List.mem_map.1 hf
      exact hgood e he)
    have HGE : Hid (∀ (k : Nat) (e : FrE), es[k]? = some e → l[k]? = some e.fr) := Lib.hid (fun k e he => by rw [hl, List.getElem?_map, he]; rfl)
    have HSL := Lib.hid hsl
    have HB1 := Lib.hid hb1
    have HLL := Lib.hid hll
    have hbd := off_bound l HG9.out
    rw [hll] at hbd
    have HOK := Lib.hid hgood
    clear hgood hsl hb1 hl hL hll
    go_wp2
    have BB : Hid ((w1.alloc (.cells #[] 5)).ownsRow w1.heap.size 5 1 (.slice (some ⟨w1.heap.size, 0, none⟩) 0 0) (encAll (l.take 0)).length (vb (encAll (l.take 0)))) := Lib.hid (built_none w1)
    have BA := Lib.hid (below_a1 w1 (.cells #[] 5))
    go_loopw [4, 30] (fun v i wr => ∃ k : Nat, k ≤ L ∧ i = .int .i64 k ∧ Hid (wr.ownsRow w1.heap.size 5 1 v (encAll (l.take k)).length (vb (encAll (l.take k)))) ∧ Hid (Below w1.heap.size w1 wr)) (fun _ i _ => L - (intOf i).toNat)
    case atStart => exact ⟨0, Nat.zero_le _, rfl, BB, BA⟩
    case round =>
      clear BB BA
      obtain ⟨k, hk, rfl, hown, hbel⟩ := hrel
      by_cases hlt : k < L
      · obtain ⟨b, off, e, rfl, hbw, he, hok, c0', c1'⟩ := HSL.out.at_ hlt
        have c0' := (hbel.out.cell (p := ⟨b, off + k * 2, none⟩) hbw).trans c0'
        have c1' := (hbel.out.cell (p := ⟨b, off + k * 2 + 1, none⟩) hbw).trans c1'
        have hlk := HGE.out k e he.out
        have hg := HG9.out _ (List.mem_of_getElem? hlk)
        have hst := enc_step l k _ hlk
        have hen : e.d.n = e.fr.2.length := hok.out.rd.len.symm
        have CB := Lib.hid (fun W (h : Below w1.heap.size w1 W) => implFrBytes e.k e.d W (hok.out.below h) (by have := hg.2; omega))
        have hkok : frOk e.k e.d.n = true := by rw [hen]; exact hg.1.ok
        rw [hkok] at CB
        have hfl := hg.1.enc_len
        have hfs := frB_small e.k e.d.xs hg.1.small
        have hkl : (encAll (l.take k)).length ≤ 116 := by have := off_mono l (i := k) (j := l.length) (by rw [HLL.out]; exact hk); rw [off_all] at this; unfold Go.Proofs.Ytmlfhjkogcabiaa.off at this; omega
        have hg2 := hg.2
        have HST := Lib.hid hst
        have HFS := Lib.hid hfs
        change (frB e.k e.d.xs).length = _ at hfl
        have hfl2 : (frB e.k e.d.xs).length ≤ 29 := by omega
        have HST2 : Hid (encAll (l.take (k + 1)) = encAll (l.take k) ++ frB e.k e.d.xs) := Lib.hid hst
        have HFS2 : Hid (∀ x ∈ frB e.k e.d.xs, x < 256) := Lib.hid hfs
        generalize frB e.k e.d.xs = X at CB HST2 HFS2 hfl2 hfl
        generalize encAll (l.take k) = Y at hown HST2 hkl
        clear hst hfs HST HFS hkok hg hen hlk he hok hfl
        have BX := Lib.hid (below_a1 wr (.cells #[.int .i64 e.k, .slice e.d.A e.d.n e.d.c] 45))
        have HBX := Lib.hid (fr_chain hbel.out BX.out)
        have HOX := Lib.hid (own_below hown.out BX.out)
        clear hown hbel
        go_wp2_with fail
        refine (CB.out _ HBX.out).mono ?_
        rintro e9 w5 ⟨A5, c5, rfl, ho5, hb5⟩
        have HB5 := Lib.hid (fr_chain HBX.out hb5)
        have HO5 := Lib.hid (own_below HOX.out hb5)
        have HX5 := Lib.hid (Rd.of_own ho5 HFS2.out)
        clear ho5 hb5
        go_wp2_with (at_builtin; refine wpList_append_any _ rfl (.tmp 41) (.tmp 42) 22 rfl w1.heap.size 5 j0 _ 1 1 Try.underlying22 hj hy0 hy1 hy2 rfl (by omega) _ Y.length (vb Y) rfl HO5.out w5.heap.size A5 X.length c5 (vb X) rfl HX5.out.reads (vb_oneCell _) (by simp only [maxLen]; omega) (by omega) (by have := HB5.out.size; omega) ?_; intro v7 w7 hown7 hg7 hat7)
        go_roundw
        case rel => exact ⟨k + 1, by omega, by go_num, Lib.hid (by rw [HST2.out, vb_append, List.length_append]; exact hown7), Lib.hid (HB5.out.grown hg7 HB5.out.size (fun j hj => (HO5.out.lt j hj).1))⟩
        case measure => simp [intOf]; omega
      · obtain rfl : k = L := by omega
        have hfull : l.take k = l := List.take_of_length_le (by rw [HLL.out]; exact Nat.le_refl _)
        rw [hfull] at hown
        obtain ⟨Ab, cb, rfl⟩ := own_form hown.out
        have HES := Lib.hid (encAll_small HG.out)
        have HW := Lib.hid (frs_whole HG.out)
        have HCUT := Lib.hid (fun k => frs_cut HG.out k)
        have HBENT := Lib.hid (fun i p x y => frs_bent (l := l) (i := i) (p := p) (x := x) (y := y) HG.out)
        have HOFF := Lib.hid (fun i f (h : l[i]? = some f) => off_succ (HG.out f (List.mem_of_getElem? h)) h)
        have HOM := Lib.hid (fun i (h : i ≤ l.length) => off_mono l h)
        rw [off_all] at HOM
        have HOWN := Lib.hid hown.out
        have HBEL := Lib.hid hbel.out
        have RB := Lib.hid (Rd.of_own hown.out HES.out)
        have hcb := own_cap hown.out
        clear hown hbel hfull
        generalize encAll l = Z at HES HW HCUT HBENT HOM HOWN RB hcb hbd
        have hzl : Z.length ≤ 116 := by omega
        have CI1 := Lib.hid (implFrames Ab Z.length cb Z wr RB.out (by omega) hcb)
        rw [HW.out] at CI1
        unfold FrsRes at CI1
        simp only at CI1
        clear HW hlt
        go_wp2_with fail
        refine CI1.out.mono ?_
        rintro e w2 ⟨A2, c2, ea, rfl, hea, hoa, hb2⟩
        have hal : ea.length = k := by have := congrArg List.length hea; rw [List.length_map, HLL.out] at this; exact this
        have HEA := Lib.hid hea
        have SA := Lib.hid hoa.sl
        rw [hal] at SA ⊢
        have HB2 := Lib.hid (fr_chain (fr_chain HB1.out HBEL.out) hb2)
        have KW2 := Lib.hid (fr_chain HBEL.out hb2)
        have RB2 := Lib.hid (RB.out.below hb2)
        have HAL := Lib.hid hal
        have CM1 := Lib.hid (CMN.out (Z.length + 1) w2 HB2.out (by omega) (by omega))
        have eq1 : ((Z.length + 1 : Nat) : Int) = (Z.length : Int) + 1 := by omega
        rw [eq1] at CM1
        clear hea hoa hb2 hal eq1 CI1
        go_wp2_with fail
        refine CM1.out.mono ?_
        rintro e w3 ⟨kk, hkk, rfl, hb3⟩
        have SA3 := Lib.hid (SA.out.below hb3)
        have HB3 := Lib.hid (fr_chain HB2.out hb3)
        have KW3 := Lib.hid (fr_chain KW2.out hb3)
        have RB3 := Lib.hid (RB2.out.below hb3)
        obtain ⟨A', hsl, hrd⟩ := slice_top RB3.out (k := kk) (by omega) hcb
        obtain ⟨m, hm, hcut, hiff⟩ := HCUT.out kk
        have CI2 := Lib.hid (implFrames A' kk cb (Z.take kk) w3 hrd (by omega) (by omega))
        rw [hcut] at CI2
        unfold FrsRes at CI2
        simp only at CI2
        have HIFF := Lib.hid hiff
        rw [HLL.out] at hm HIFF
        clear hb3 SA HB2 KW2 RB2 CM1 hrd hcut hiff HCUT
        go_wp2_with fail
        refine CI2.out.mono ?_
        rintro e w4 ⟨A4, c4, ec, rfl, hec, hoc, hb4⟩
        have hcl : ec.length = m := by have := congrArg List.length hec; rw [List.length_map, List.length_take, HLL.out] at this; omega
        rw [hcl] at hoc ⊢
        have SA4 := Lib.hid (SA3.out.below hb4)
        have HB4 := Lib.hid (fr_chain HB3.out hb4)
        have KW4 := Lib.hid (fr_chain KW3.out hb4)
        have RB4 := Lib.hid (RB3.out.below hb4)
        clear hec hoc hb4 SA3 HB3 KW3 RB3 CI2 hcl hsl
        have hmk : decide ((k : Int) < (m : Int)) = false := by simp; omega
        have hmk' : decide (k < m) = false := by simp; omega
        go_wp2
        try rw [hmk']
        go_loopw [14, 82] (fun p i wr => ∃ j : Nat, j ≤ k ∧ i = .int .i64 j ∧ p = .int .i64 ((off l j : Nat) : Int) ∧ Hid (Below w4.heap.size w4 wr)) (fun _ i _ => k - (intOf i).toNat)
        case atStart => exact ⟨0, Nat.zero_le _, rfl, rfl, Lib.hid (Below.refl _ _)⟩
        case round =>
          obtain ⟨j, hjk, rfl, rfl, hbel⟩ := hrel
          by_cases hlt : j < k
          · obtain ⟨b, of, e, rfl, hbw, he, hok, c0', c1'⟩ := HSL.out.at_ hlt
            obtain ⟨b2, of2, e2, rfl, hbw2, he2, hok2, d0', d1'⟩ := SA4.out.at_ hlt
            have HK := Lib.hid (fr_chain KW4.out hbel.out)
            have c0' := (HK.out.cell (p := ⟨b, of + j * 2, none⟩) hbw).trans c0'
            have c1' := (HK.out.cell (p := ⟨b, of + j * 2 + 1, none⟩) hbw).trans c1'
            have d0' := (hbel.out.cell (p := ⟨b2, of2 + j * 2, none⟩) hbw2).trans d0'
            have d1' := (hbel.out.cell (p := ⟨b2, of2 + j * 2 + 1, none⟩) hbw2).trans d1'
            have hlk := HGE.out j e he.out
            have hfr : e2.fr = e.fr := by
              have h1 : (ea.map FrE.fr)[j]? = some e2.fr := by rw [List.getElem?_map, he2.out]; rfl
              rw [HEA.out, hlk] at h1
              injection h1 with h1
              exact h1.symm
            obtain ⟨hkd, hxs⟩ := fr_split hfr
            have hos := HOFF.out j _ hlk
            have hom := HOM.out (j + 1) (by rw [HLL.out]; omega)
            have hg9 := (HG9.out _ (List.mem_of_getElem? hlk)).2
            have hen : e.d.n = e.fr.2.length := hok.out.rd.len.symm
            rw [← hen] at hos hg9
            have hiff := HIFF.out j (by omega)
            have HBT := Lib.hid (fun p x y h1 h2 h3 h4 h5 => HBENT.out j p x y (by rw [HLL.out]; omega) h1 h2 h3 h4 h5)
            rw [hos] at hom hiff HBT
            have HOS : Hid (off l (j + 1) = off l j + 20 + e.d.n) := Lib.hid hos
            have e1 : ∀ q W, Below w1.heap.size w1 W → (convert 22 9 (.slice e.d.A e.d.n e.d.c)).run Try.prog (W.drewN q) = .ok (.string (strB e.d.xs)) (W.drewN q) := fun q W h => conv_rd e.d.c ((hok.out.rd.below h).drewN q)
            have e2' : ∀ q W, Below w4.heap.size w4 W → (convert 22 9 (.slice e2.d.A e2.d.n e2.d.c)).run Try.prog (W.drewN q) = .ok (.string (strB e2.d.xs)) (W.drewN q) := fun q W h => conv_rd e2.d.c ((hok2.out.rd.below h).drewN q)
            rw [hxs] at e2'
            rw [hkd] at d0'
            generalize strB e.d.xs = S at e1 e2'
            have hss : (S.toList == S.toList) = true := by simp
            have E1 := Lib.hid e1
            have E2 := Lib.hid e2'
            clear e1 e2' he he2 hok2 hlk hfr hkd hxs hen hos
            generalize off l j = P at hom hiff HBT HOS ⊢
            have BX := Lib.hid (below_a1 wr (.cells #[.int .i64 e.k, .slice e.d.A e.d.n e.d.c] 45))
            have x0 : (wr.alloc (.cells #[.int .i64 e.k, .slice e.d.A e.d.n e.d.c] 45)).cell? ⟨wr.heap.size, 0, none⟩ = some (.int .i64 e.k) := by simp
            have x1 : (wr.alloc (.cells #[.int .i64 e.k, .slice e.d.A e.d.n e.d.c] 45)).cell? ⟨wr.heap.size, 1, none⟩ = some (.slice e.d.A e.d.n e.d.c) := by simp
            have y0 := (BX.out.cell (p := ⟨b2, of2 + j * 2, none⟩) (by have := hbel.out.size; show b2 < wr.heap.size; omega)).trans d0'
            have y1 := (BX.out.cell (p := ⟨b2, of2 + j * 2 + 1, none⟩) (by have := hbel.out.size; show b2 < wr.heap.size; omega)).trans d1'
            have hen2 : e.d.n ≤ 9 := hg9
            have e1 : ∀ q, (convert 22 9 (.slice e.d.A e.d.n e.d.c)).run Try.prog ((wr.alloc (.cells #[.int .i64 e.k, .slice e.d.A e.d.n e.d.c] 45)).drewN q) = .ok (.string S) ((wr.alloc (.cells #[.int .i64 e.k, .slice e.d.A e.d.n e.d.c] 45)).drewN q) := fun q => E1.out q _ (fr_chain HK.out BX.out)
            have e2' : ∀ q, (convert 22 9 (.slice e2.d.A e2.d.n e2.d.c)).run Try.prog ((wr.alloc (.cells #[.int .i64 e.k, .slice e.d.A e.d.n e.d.c] 45)).drewN q) = .ok (.string S) ((wr.alloc (.cells #[.int .i64 e.k, .slice e.d.A e.d.n e.d.c] 45)).drewN q) := fun q => E2.out q _ (fr_chain hbel.out BX.out)
            have HKX := Lib.hid (fr_chain HK.out BX.out)
            have HBX := Lib.hid (fr_chain hbel.out BX.out)
            clear E1 E2 BX HK hbel
            go_wp2
            generalize wr.alloc (.cells #[.int .i64 e.k, .slice e.d.A e.d.n e.d.c] 45) = W0 at *
            by_cases hjm : j < m
            case' pos =>
              have hpk : P + 20 + e.d.n ≤ kk := hiff.2 hjm
              have dj : decide ((j : Int) < (m : Int)) = true := by simp; omega
              have dk : decide ((P : Int) + 20 + (e.d.n : Int) ≤ (kk : Int)) = true := by simp; omega
              clear hiff
              go_quiet (fail)
              rename Nat => kq
            case' neg =>
              have hpk : ¬ P + 20 + e.d.n ≤ kk := fun h => hjm (hiff.1 h)
              have dj : decide ((j : Int) < (m : Int)) = false := by simp; omega
              have dk : decide ((P : Int) + 20 + (e.d.n : Int) ≤ (kk : Int)) = false := by simp; omega
              clear hiff
              go_quiet (fail)
              rename Nat => kq
            all_goals
              clear dj dk hpk hjm e1 e2' x0 x1 y0 y1
              have HK5 := Lib.hid (below_drewN HKX.out kq)
              have HB5 := Lib.hid (below_drewN HBX.out kq)
              clear HKX HBX
              generalize W0.drewN kq = w5 at *
              have RB5 := Lib.hid (RB4.out.below HB5.out)
              have RX := Lib.hid (RB5.out.below (below_a1 w5 (.cells #[] 5)))
              have BX := Lib.hid (below_a1 w5 (.cells #[] 5))
              have HO0 := Lib.hid (built_none w5)
              go_wp2_with (at_builtin; refine wpList_append_any _ rfl (.tmp 123) (.tmp 124) 22 rfl w5.heap.size 5 j0 _ 1 1 Try.underlying22 hj hy0 hy1 hy2 rfl (by omega) (.slice (some ⟨w5.heap.size, 0, none⟩) 0 0) 0 [] rfl HO0.out _ Ab Z.length cb (vb Z) rfl RX.out.reads (vb_oneCell _) (by simp only [maxLen]; omega) (by omega) (by simp) ?_; intro v7 w7 hown7 hg7 hat7)
              rw [Nat.zero_add, List.nil_append] at hown7
              obtain ⟨A7, c7, rfl⟩ := own_form hown7
              have hbg : Below w5.heap.size w5 w7 := BX.out.grown hg7 BX.out.size (fun j hj => by have h : some w5.heap.size = some j := hj; injection h with h; omega)
              have HB7 := Lib.hid (fr_chain HB5.out hbg)
              have HW7 := Lib.hid (fr_chain (fr_chain HB4.out HB5.out) hbg)
              have HO7 := Lib.hid (own_mono hown7 HB5.out.size)
              clear hown7 hg7 hat7 hbg BX RX HO0 RB5 HB5 HK5
              have CM2 := Lib.hid (CMN.out (20 + e.d.n) w7 HW7.out (by omega) (by omega))
              have eq2 : ((20 + e.d.n : Nat) : Int) = (P : Int) + 20 + (e.d.n : Int) - (P : Int) := by omega
              rw [eq2] at CM2
              clear eq2
              refine CM2.out.mono ?_
              rintro e8 w8 ⟨r1, hr1, rfl, hb8⟩
              have HO8 := Lib.hid (own_below HO7.out hb8)
              have HB8 := Lib.hid (fr_chain HB7.out hb8)
              have HW8 := Lib.hid (fr_chain HW7.out hb8)
              clear hb8 HO7 HB7 HW7 CM2
              obtain ⟨g, rfl⟩ := row_at HO8.out (by omega)
              have hq : ∃ q : Nat, q = P + r1 := ⟨_, rfl⟩
              obtain ⟨q, hq⟩ := hq
              have hqz : q < Z.length := by omega
              have hqi : (P : Int) + (r1 : Int) = (q : Int) := by omega
              have hqP : P ≤ q := by omega
              have hqE : q < P + 20 + e.d.n := by omega
              clear hq
              obtain ⟨x, hx⟩ : ∃ x, Z[q]? = some x := ⟨_, List.getElem?_eq_getElem hqz⟩
              have hx256 : x < 256 := HES.out x (List.mem_of_getElem? hx)
              have HX := Lib.hid hx
              have HXV : Hid ((vb Z)[q]? = some (.int .u8 (x : Int))) := Lib.hid (by rw [vb_get, hx]; rfl)
              clear hx
              have CM3 : Hid (∀ W, Below w.heap.size w W → Calls Try.prog 20 #[.slice A0 n0 c0, .int .i64 255] W fun e w' => ∃ x : Nat, x < 255 ∧ e = .returned (.int .i64 (x : Int)) ∧ Below W.heap.size W w') := Lib.hid (fun W h => CMN.out 255 W h (by omega) (by omega))
              go_wp2
              have hc8 := (HO8.out.cellAt q (by omega)).trans HXV.out
              have hf8 := HO8.out.frozenAt q
              go_region_with (go_at_call 20; ((with_reducible refine (CM3.out _ (by first | exact HW8.out | exact HW8.out.drew | exact HW8.out.drew.drew | exact below_drewN HW8.out _)).mono ?_)); rintro e9 w9 ⟨r2, hr2, rfl, hb9⟩; have HB9 : Hid (Below w8.heap.size w8 w9) := Lib.hid (by first | exact hb9 | exact ⟨hb9.os, hb9.tape, hb9.output, hb9.size, hb9.block⟩); have HO9 := Lib.hid (own_below HO8.out HB9.out); have hc9 := (HO9.out.cellAt q (by omega)).trans HXV.out; have hf9 := HO9.out.frozenAt q; have hcq : IntKind.u8.wrap (1 + (r2 : Int)) = 1 + (r2 : Int) := IntWalk.u8_in _ (by omega); have hq8' : bits .xor .u8 (x : Int) (1 + (r2 : Int)) = ((x ^^^ (1 + r2) : Nat) : Int) := xor8' x (1 + r2) hx256 (by omega); have hyx : x ^^^ (1 + r2) ≠ x := xor_ne (by omega); have hyl : x ^^^ (1 + r2) < 256 := Nat.xor_lt_two_pow (n := 8) (by omega) (by omega); have hcv : IntKind.u8.wrap ((x ^^^ (1 + r2) : Nat) : Int) = ((x ^^^ (1 + r2) : Nat) : Int) := IntWalk.u8_in _ (by omega); generalize x ^^^ (1 + r2) = y at hq8' hyx hyl hcv)
              all_goals
                have hwy : bits .xor .u8 (x : Int) (IntKind.u8.wrap (IntKind.i64.wrap (1 + (r2 : Int)))) = (y : Int) := by rw [IntWalk.i64_in _ (by omega), hcq, hq8']
                rw [hwy]
                have hset : (vb Z).set q (.int .u8 (y : Int)) = vb (Z.set q y) := by simp [vb, List.map_set]
                have hst := HO9.out.stored q (.int .u8 (y : Int))
                rw [hset] at hst
                have hg4 : w4.heap.size ≤ g := (HO9.out.lt g rfl).1
                have hgw : w.heap.size ≤ g := by have := HB4.out.size; omega
                have HBE := Lib.hid ((fr_chain HB8.out HB9.out).setCell (p := ⟨g, q, none⟩) hg4 (.int .u8 (y : Int)))
                have hrd : Rd (w9.setCell ⟨g, q, none⟩ (.int .u8 (y : Int))) (some ⟨g, 0, none⟩) Z.length (Z.set q y) := Rd.of_own hst.1 (fun z hz => by
                  rcases List.mem_or_eq_of_mem_set hz with hz | rfl
                  · exact HES.out z hz
                  · exact hyl)
                have CI3 := Lib.hid (implFrames (some ⟨g, 0, none⟩) Z.length c7 (Z.set q y) _ hrd (by omega) (own_cap HO9.out))
                rw [HBT.out q x y hqP hqE HX.out hyl hyx] at CI3
                unfold FrsRes at CI3
                simp only at CI3
                clear hwy hset hst hrd hc8 hf8 hc9 hf9 hcq hq8' hcv hb9 HO9 HB9 HB8 HW8 HO8 CM3 HX HXV HBT
                generalize w9.setCell ⟨g, q, none⟩ (.int .u8 (y : Int)) = wA at *
                go_wp2_with fail
                refine CI3.out.mono ?_
                rintro e10 w10 ⟨A10, c10, ef, rfl, hef, hof, hb10⟩
                have hfl : ef.length = j := by have := congrArg List.length hef; rw [List.length_map, List.length_take, HLL.out] at this; omega
                rw [hfl]
                have HBF := Lib.hid (fr_chain HBE.out hb10)
                clear hef hof hb10 hfl CI3
                go_wp2
                go_roundw
                case rel => exact ⟨j + 1, by omega, by go_num, by rw [HOS.out]; go_num, HBF⟩
                case measure => simp [intOf]; omega
          · obtain rfl : j = k := by omega
            go_wp2
            go_ret
            exact ⟨rfl, fr_chain HB4.out hbel.out⟩
  · have dsz : decide ((1048576 : Int) < (d.n : Int)) = true := by simp; omega
    have dsz' : decide (1048576 < d.n) = true := by simp; omega
    clear hok
    go_enter Try.func4, Try.ntmps4
    go_wp2
    go_ret
    exact ⟨rfl, Below.refl _ _⟩
end Go.Proofs.Ytmlfhjkogcabiaa
