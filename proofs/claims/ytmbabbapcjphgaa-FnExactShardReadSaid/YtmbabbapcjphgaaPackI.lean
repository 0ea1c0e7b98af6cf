/- The program's packer (two boxed variables, a closure that writes numbers behind what is written, one that hands it over) and its unpacker (an offset that moves). Condition: at most 2^25 bytes. -/
import Derived.Test.YtmbabbapcjphgaaPackRes
import Derived.Test.YtmbabbapcjphgaaPutVarImpl
import Derived.Test.YtmbabbapcjphgaaPutZigImpl
import Derived.Test.YtmbabbapcjphgaaPutFixImpl
import Derived.Test.YtmbabbapcjphgaaGetVarImpl
import Derived.Test.YtmbabbapcjphgaaGetZigImpl
import Derived.Test.YtmbabbapcjphgaaGetFixImpl
import Derived.Test.YtmbabbapcjphgaaBlkB
import Derived.Test.YtmbabbapcjphgaaOnlyB
namespace Go.Proofs.Ytmbabbapcjphgaa
open Go.RowKit

theorem ownT_ne {w : World} {lo e size n b : Nat} {v : Value} {xs : List Value} {cs : Array Value} {t : TypeId} (h : w.ownsRow lo e size v n xs) (hb : Blk w b cs t) (ht : t ≠ e) : v.ownBlock ≠ some b := by
  rcases h.2 with ⟨rfl, _⟩ | ⟨g, cap, cur2, rfl, _, hcell, _⟩
  · simp [Value.ownBlock]
  · intro h
    have h' : some g = some b := h
    injection h' with h'
    subst h'
    have hb2 : w.heap[g]? = some (.cells cs t (0, 0)) := hb
    rw [hb2] at hcell
    injection hcell with hcell
    injection hcell with _ h2
    exact ht h2
theorem own_setT {w : World} {lo e size n b i : Nat} {v u : Value} {xs : List Value} {cs : Array Value} {t : TypeId} (h : w.ownsRow lo e size v n xs) (hb : Blk w b cs t) (ht : t ≠ e) : (w.setCell ⟨b, i, none⟩ u).ownsRow lo e size v n xs := by
  have hne := ownT_ne h hb ht
  refine ⟨h.1, ?_⟩
  rcases h.2 with hn | ⟨g, cap, cur, rfl, hl, hgg, rest⟩
  · exact .inl hn
  · refine .inr ⟨g, cap, cur, rfl, hl, ?_, rest⟩
    rw [Below.heap_setCell w ⟨b, i, none⟩ u g (fun e => hne (by rw [e]; rfl))]
    exact hgg
/-- What stands in the packer's two variables: the bytes so far, a row of the call's own, and whether each number had an encoding. -/
structure PB (w : World) (lo go gw : Nat) (ys : List Nat) (ok : Bool) : Prop where
  out : ∃ v, Blk w go #[v] 55 ∧ w.ownsRow lo 5 1 v ys.length (vb ys)
  all : Blk w gw #[.bool ok] 4
/-- What the packer leaves as it was. -/
structure PK (lo go gw : Nat) (w w' : World) : Prop where
  below : Below lo w w'
  stay : ∀ b cs t, Blk w b cs t → b ≠ go → b ≠ gw → t ≠ 5 → Blk w' b cs t
theorem PK.refl (lo go gw : Nat) (w : World) : PK lo go gw w w := ⟨Below.refl _ _, fun _ _ _ h _ _ _ => h⟩
theorem PK.trans {lo go gw : Nat} {a b c : World} (h : PK lo go gw a b) (k : PK lo go gw b c) : PK lo go gw a c := ⟨h.below.trans k.below, fun i cs t hb h1 h2 h3 => k.stay i cs t (h.stay i cs t hb h1 h2 h3) h1 h2 h3⟩
theorem PK.ofBelow {lo go gw : Nat} {a b : World} (h : Below a.heap.size a b) (hl : lo ≤ a.heap.size) : PK lo go gw a b := ⟨h.mono hl, fun _ _ _ hb _ _ _ => hb.below h⟩
theorem PB.below {w w' : World} {lo go gw : Nat} {ys : List Nat} {ok : Bool} (h : PB w lo go gw ys ok) (hb : Below w.heap.size w w') : PB w' lo go gw ys ok := by
  obtain ⟨⟨v, h1, h2⟩, h3⟩ := h
  exact ⟨⟨v, h1.below hb, own_below h2 hb⟩, h3.below hb⟩
/-- Other blocks are written. -/
theorem PB.set {w : World} {lo go gw b i : Nat} {ys : List Nat} {ok : Bool} {u : Value} {cs : Array Value} {t : TypeId} (h : PB w lo go gw ys ok) (hb : Blk w b cs t) (ht : t ≠ 5) (h1 : go ≠ b) (h2 : gw ≠ b) : PB (w.setCell ⟨b, i, none⟩ u) lo go gw ys ok := by
  obtain ⟨⟨v, k1, k2⟩, k3⟩ := h
  exact ⟨⟨v, k1.other h1 u, own_setT k2 hb ht⟩, k3.other h2 u⟩
theorem pk_round {lo go gw : Nat} {w wr w1 w2 : World} {v v2 : Value} {ys zs : List Nat} {b : Bool} (hk : PK lo go gw w wr) (hp : Blk wr go #[v] 55) (ho : wr.ownsRow lo 5 1 v ys.length (vb ys)) (ha : Blk wr gw #[.bool b] 4)
    (hb1 : Below wr.heap.size wr w1) (hg2 : w1.grownBy w2 v.ownBlock) (ho2 : w2.ownsRow lo 5 1 v2 (ys.length + zs.length) (vb ys ++ vb zs)) (hlo : lo ≤ wr.heap.size) (hlg : lo ≤ go) (hlw : lo ≤ gw) (hne : go ≠ gw) (r : Bool) :
    PB ((w2.setCell ⟨go, 0, none⟩ v2).setCell ⟨gw, 0, none⟩ (.bool r)) lo go gw (ys ++ zs) r ∧ PK lo go gw w ((w2.setCell ⟨go, 0, none⟩ v2).setCell ⟨gw, 0, none⟩ (.bool r)) := by
  have ho1 := own_below ho hb1
  have a1 := hp.below hb1
  have a2 := a1.grown hg2 (ownT_ne ho1 a1 (by decide))
  have c1 := ha.below hb1
  have c2 := c1.grown hg2 (ownT_ne ho1 c1 (by decide))
  have a3 := a2.set 0 v2
  have c3 := c2.other (p := ⟨go, 0, none⟩) (fun e => hne e.symm) v2
  have a4 := a3.other (p := ⟨gw, 0, none⟩) hne (.bool r)
  have c4 := c3.set 0 (.bool r)
  have ho3 := own_setT (i := 0) (u := v2) ho2 a2 (by decide)
  have ho4 := own_setT (i := 0) (u := .bool r) ho3 c3 (by decide)
  refine ⟨⟨⟨v2, a4, ?_⟩, c4⟩, hk.trans ⟨?_, fun i cs t hb h1 h2 h3 => ?_⟩⟩
  · rw [vb_append, List.length_append]; exact ho4
  · exact (((hb1.mono hlo).grown hg2 (Nat.le_trans hlo hb1.size) (fun k hk => (ho1.lt k hk).1)).setCell (p := ⟨go, 0, none⟩) hlg _).setCell (p := ⟨gw, 0, none⟩) hlw _
  · have d1 := hb.below hb1
    exact ((d1.grown hg2 (ownT_ne ho1 d1 h3)).other (p := ⟨go, 0, none⟩) h1 v2).other (p := ⟨gw, 0, none⟩) h2 (.bool r)
theorem packer_any (w : World) :
    Calls Try.prog 72 #[] w fun e w' => e = .returned (.tuple #[.func (.func 99) #[] #[.pointer (some ⟨w.heap.size, 0, none⟩), .pointer (some ⟨w.heap.size + 1, 0, none⟩)], .func (.func 100) #[] #[.pointer (some ⟨w.heap.size + 1, 0, none⟩), .pointer (some ⟨w.heap.size, 0, none⟩)]]) ∧
      PB w' w.heap.size w.heap.size (w.heap.size + 1) [] true ∧ Below w.heap.size w w' := by
  have hmf : ∀ (fn : Fn) (first cap : Array Value) (w : World), (Instr.makeFunc fn first cap).run Try.prog w = .ok (.func fn first cap) w := fun _ _ _ _ => rfl
  go_enter Try.func72, Try.ntmps72
  go_wp2
  go_ret2
  have a1 := Blk.new w #[.slice none 0 0] 55
  have c1 := Blk.new (w.alloc (.cells #[.slice none 0 0] 55)) #[.bool true] 4
  exact ⟨by simp, ⟨⟨.slice none 0 0, a1.alloc _, World.ownsRow_nil _ _ _ _⟩, by simpa using c1⟩, below_a2 _ _ _⟩
theorem written_any {w : World} {lo go gw : Nat} {ys : List Nat} {ok : Bool} (h : PB w lo go gw ys ok) :
    Calls Try.prog 100 #[.pointer (some ⟨gw, 0, none⟩), .pointer (some ⟨go, 0, none⟩)] w fun e w' => w = w' ∧ ∃ A c, e = .returned (.tuple #[.slice A (if ok then ys else []).length c, .bool ok]) ∧ w.ownsRow lo 5 1 (.slice A (if ok then ys else []).length c) (if ok then ys else []).length (vb (if ok then ys else [])) := by
  obtain ⟨⟨v, h1, h2⟩, h3⟩ := h
  have c0 := h1.cell (i := 0) rfl
  have c1 := h3.cell (i := 0) rfl
  obtain ⟨A, c, rfl⟩ := own_form h2
  have HO := Lib.hid h2
  clear h1 h2 h3
  cases ok with
  | true =>
    go_enter Try.func100, Try.ntmps100
    go_wp2
    go_ret2
    exact ⟨rfl, A, c, rfl, HO.out⟩
  | false =>
    go_enter Try.func100, Try.ntmps100
    go_wp2
    go_ret2
    exact ⟨rfl, none, 0, rfl, World.ownsRow_nil _ _ _ _⟩

set_option maxRecDepth 10000 in
set_option maxHeartbeats 2000000 in
theorem writePutVar_any (A : Option Addr) (n c lo go gw : Nat) (l : List Int) (ys : List Nat) (ok : Bool) (w : World) (hp : PB w lo go gw ys ok) (hr : ∀ W, PK lo go gw w W → SlI W A n l) (hn : n ≤ 1048576) (hy : ys.length + 7 * n ≤ 33554432) (hsz : lo ≤ w.heap.size) (hlg : lo ≤ go) (hlw : lo ≤ gw) (hne : go ≠ gw) :
    Calls Try.prog 99 #[.func (.func 73) #[] #[], .slice A n c, .pointer (some ⟨go, 0, none⟩), .pointer (some ⟨gw, 0, none⟩)] w fun e w' => e = .returned (.tuple #[]) ∧ PB w' lo go gw (ys ++ l.flatMap (fun x => putVar [] x)) (ok && l.all numOk) ∧ PK lo go gw w w' := by
  obtain ⟨i0, hi, hz0, hz1, hz2⟩ := info_parts Try.infoByte
  have HL := Lib.hid (hr w (PK.refl _ _ _ _)).len
  have HR := Lib.hid hr
  have HP0 : Hid (PB w lo go gw (ys ++ (l.take 0).flatMap (fun x => putVar [] x)) (ok && (l.take 0).all numOk)) := Lib.hid (by simpa using hp)
  have HSZ := Lib.hid hsz
  have HLG := Lib.hid hlg
  have HLW := Lib.hid hlw
  have HNE := Lib.hid hne
  clear hr hp hsz hlg hlw hne
  go_enter Try.func99, Try.ntmps99
  go_wp2
  go_loopw [7, 8, 9, 12] (fun _ _ _ i wr => ∃ j : Nat, j ≤ n ∧ i = .int .i64 (j : Int) ∧ Hid (PB wr lo go gw (ys ++ (l.take j).flatMap (fun x => putVar [] x)) (ok && (l.take j).all numOk)) ∧ Hid (PK lo go gw w wr)) (fun _ _ _ i _ => n - (intOf i).toNat)
  case atStart => exact ⟨0, Nat.zero_le _, rfl, HP0, Lib.hid (PK.refl _ _ _ _)⟩
  case round =>
    clear HP0
    obtain ⟨j, hj, rfl, hpb, hpk⟩ := hrel
    by_cases hlt : j < n
    · have hsl := HR.out wr hpk.out
      obtain ⟨b, off, x, rfl, hbw, hxs, hc⟩ := hsl.at_ hlt
      have HX := Lib.hid (pk_flat_step (fun x => putVar [] x) l j x hxs.out)
      have HA := Lib.hid (pk_all_step numOk l j x hxs.out)
      have hzl : (putVar [] x).length ≤ 7 := by have := putVar_length [] x; simpa using this
      have HYL : Hid ((ys ++ (l.take j).flatMap (fun x => putVar [] x)).length ≤ ys.length + 7 * j) := Lib.hid (by
        have := pk_flat_len (fun x : Int => putVar [] x) 7 (fun x => by have := putVar_length [] x; simpa using this) (l.take j)
        rw [List.length_append]
        rw [List.length_take] at this
        omega)
      obtain ⟨⟨v, hgo, hown⟩, hgw⟩ := hpb.out
      have CP := Lib.hid (fun W => implPutVar none 0 0 x [] W Rd.nil (by omega))
      generalize hys : ys ++ (l.take j).flatMap (fun x => putVar [] x) = yj at HX HYL hown hpb
      generalize hzs : putVar [] x = zs at HX hzl CP
      have HYS := Lib.hid hys
      have HZS := Lib.hid hzs
      generalize hbb : (ok && (l.take j).all numOk) = bk at hgw hpb
      generalize hqq : numOk x = q at HA CP
      have HBB := Lib.hid hbb
      have HQQ := Lib.hid hqq
      have hyl := HYL.out
      have HGO := Lib.hid hgo
      have HGW := Lib.hid hgw
      have HOW := Lib.hid hown
      have HLW2 := Lib.hid (Nat.le_trans HSZ.out hpk.out.below.size)
      clear hsl hxs hgo hgw hown hpb hys hzs hbb hqq HYL
      go_wp2_with fail
      refine (CP.out _).mono ?_
      rintro e w1 ⟨A1, c1, rfl, hon, hb1⟩
      have HB1 := Lib.hid hb1
      have c0 := (HGO.out.below hb1).cell (i := 0) rfl
      have HON := Lib.hid hon
      have hbs : lo ≤ w1.heap.size := Nat.le_trans HLW2.out hb1.size
      clear hon hb1 hc
      go_wp2_with (at_builtin; refine wpList_append_any _ rfl (.tmp 22) (.tmp 23) _ rfl lo 5 i0 _ 1 1 Try.underlying55 hi hz0 hz1 hz2 rfl (by omega) v yj.length (vb yj) rfl (own_below HOW.out HB1.out) w1.heap.size A1 zs.length c1 (vb zs) rfl (Reads.of_own HON.out) (vb_oneCell zs) (by simp only [maxLen]; omega) (by omega) (by omega) ?_)
      intro v2 w2 hown2 hg2 _
      obtain ⟨A2, c2, rfl⟩ := own_form hown2
      have a2 := (HGO.out.below HB1.out).grown hg2 (ownT_ne (own_below HOW.out HB1.out) (HGO.out.below HB1.out) (by decide))
      have d2 := (HGW.out.below HB1.out).grown hg2 (ownT_ne (own_below HOW.out HB1.out) (HGW.out.below HB1.out) (by decide))
      have f0 := a2.frozen 0
      have f1 := (d2.other (p := ⟨go, 0, none⟩) (fun e => HNE.out e.symm) (.slice A2 (yj.length + zs.length) c2)).frozen 0
      have e1 := (d2.other (p := ⟨go, 0, none⟩) (fun e => HNE.out e.symm) (.slice A2 (yj.length + zs.length) c2)).cell (i := 0) rfl
      have e0 := a2.cell (i := 0) rfl
      have HRD := Lib.hid (fun r => pk_round hpk.out HGO.out HOW.out HGW.out HB1.out hg2 hown2 HLW2.out HLG.out HLW.out HNE.out r)
      have HEQ : Hid (∀ r, r = (bk && q) → PB ((w2.setCell ⟨go, 0, none⟩ (.slice A2 (yj.length + zs.length) c2)).setCell ⟨gw, 0, none⟩ (.bool r)) lo go gw (ys ++ (l.take (j + 1)).flatMap (fun x => putVar [] x)) (ok && (l.take (j + 1)).all numOk) ∧ PK lo go gw w ((w2.setCell ⟨go, 0, none⟩ (.slice A2 (yj.length + zs.length) c2)).setCell ⟨gw, 0, none⟩ (.bool r))) := Lib.hid (fun r hr => by
        have h := HRD.out r
        rw [HX.out, HA.out, ← Bool.and_assoc, HBB.out, ← List.append_assoc, HYS.out, ← hr]
        exact h)
      clear a2 d2 hown2 hg2 HRD c0
      cases bk with
      | false =>
        go_wp2
        go_roundw
        case rel => exact ⟨j + 1, by omega, by go_num, Lib.hid (HEQ.out false rfl).1, Lib.hid (HEQ.out false rfl).2⟩
        case measure => simp [intOf]; omega
      | true =>
        go_wp2
        go_roundw
        case rel => exact ⟨j + 1, by omega, by go_num, Lib.hid (HEQ.out q rfl).1, Lib.hid (HEQ.out q rfl).2⟩
        case measure => simp [intOf]; omega
    · obtain rfl : j = n := by omega
      go_wp2
      go_end0
      have h := hpb.out
      rw [List.take_of_length_le (by rw [HL.out]; exact Nat.le_refl _)] at h
      exact ⟨rfl, h, hpk.out⟩

set_option maxRecDepth 10000 in
set_option maxHeartbeats 2000000 in
theorem writePutZig_any (A : Option Addr) (n c lo go gw : Nat) (l : List Int) (ys : List Nat) (ok : Bool) (w : World) (hp : PB w lo go gw ys ok) (hr : ∀ W, PK lo go gw w W → SlI W A n l) (hn : n ≤ 1048576) (hy : ys.length + 7 * n ≤ 33554432) (hsz : lo ≤ w.heap.size) (hlg : lo ≤ go) (hlw : lo ≤ gw) (hne : go ≠ gw) :
    Calls Try.prog 99 #[.func (.func 74) #[] #[], .slice A n c, .pointer (some ⟨go, 0, none⟩), .pointer (some ⟨gw, 0, none⟩)] w fun e w' => e = .returned (.tuple #[]) ∧ PB w' lo go gw (ys ++ l.flatMap (fun x => putZig [] x)) (ok && l.all zigOk) ∧ PK lo go gw w w' := by
  obtain ⟨i0, hi, hz0, hz1, hz2⟩ := info_parts Try.infoByte
  have HL := Lib.hid (hr w (PK.refl _ _ _ _)).len
  have HR := Lib.hid hr
  have HP0 : Hid (PB w lo go gw (ys ++ (l.take 0).flatMap (fun x => putZig [] x)) (ok && (l.take 0).all zigOk)) := Lib.hid (by simpa using hp)
  have HSZ := Lib.hid hsz
  have HLG := Lib.hid hlg
  have HLW := Lib.hid hlw
  have HNE := Lib.hid hne
  clear hr hp hsz hlg hlw hne
  go_enter Try.func99, Try.ntmps99
  go_wp2
  go_loopw [7, 8, 9, 12] (fun _ _ _ i wr => ∃ j : Nat, j ≤ n ∧ i = .int .i64 (j : Int) ∧ Hid (PB wr lo go gw (ys ++ (l.take j).flatMap (fun x => putZig [] x)) (ok && (l.take j).all zigOk)) ∧ Hid (PK lo go gw w wr)) (fun _ _ _ i _ => n - (intOf i).toNat)
  case atStart => exact ⟨0, Nat.zero_le _, rfl, HP0, Lib.hid (PK.refl _ _ _ _)⟩
  case round =>
    clear HP0
    obtain ⟨j, hj, rfl, hpb, hpk⟩ := hrel
    by_cases hlt : j < n
    · have hsl := HR.out wr hpk.out
      obtain ⟨b, off, x, rfl, hbw, hxs, hc⟩ := hsl.at_ hlt
      have HX := Lib.hid (pk_flat_step (fun x => putZig [] x) l j x hxs.out)
      have HA := Lib.hid (pk_all_step zigOk l j x hxs.out)
      have hzl : (putZig [] x).length ≤ 7 := by have := putZig_length [] x; simpa using this
      have HYL : Hid ((ys ++ (l.take j).flatMap (fun x => putZig [] x)).length ≤ ys.length + 7 * j) := Lib.hid (by
        have := pk_flat_len (fun x : Int => putZig [] x) 7 (fun x => by have := putZig_length [] x; simpa using this) (l.take j)
        rw [List.length_append]
        rw [List.length_take] at this
        omega)
      obtain ⟨⟨v, hgo, hown⟩, hgw⟩ := hpb.out
      have CP := Lib.hid (fun W => implPutZig none 0 0 x [] W Rd.nil (by omega))
      generalize hys : ys ++ (l.take j).flatMap (fun x => putZig [] x) = yj at HX HYL hown hpb
      generalize hzs : putZig [] x = zs at HX hzl CP
      have HYS := Lib.hid hys
      have HZS := Lib.hid hzs
      generalize hbb : (ok && (l.take j).all zigOk) = bk at hgw hpb
      generalize hqq : zigOk x = q at HA CP
      have HBB := Lib.hid hbb
      have HQQ := Lib.hid hqq
      have hyl := HYL.out
      have HGO := Lib.hid hgo
      have HGW := Lib.hid hgw
      have HOW := Lib.hid hown
      have HLW2 := Lib.hid (Nat.le_trans HSZ.out hpk.out.below.size)
      clear hsl hxs hgo hgw hown hpb hys hzs hbb hqq HYL
      go_wp2_with fail
      refine (CP.out _).mono ?_
      rintro e w1 ⟨A1, c1, rfl, hon, hb1⟩
      have HB1 := Lib.hid hb1
      have c0 := (HGO.out.below hb1).cell (i := 0) rfl
      have HON := Lib.hid hon
      have hbs : lo ≤ w1.heap.size := Nat.le_trans HLW2.out hb1.size
      clear hon hb1 hc
      go_wp2_with (at_builtin; refine wpList_append_any _ rfl (.tmp 22) (.tmp 23) _ rfl lo 5 i0 _ 1 1 Try.underlying55 hi hz0 hz1 hz2 rfl (by omega) v yj.length (vb yj) rfl (own_below HOW.out HB1.out) w1.heap.size A1 zs.length c1 (vb zs) rfl (Reads.of_own HON.out) (vb_oneCell zs) (by simp only [maxLen]; omega) (by omega) (by omega) ?_)
      intro v2 w2 hown2 hg2 _
      obtain ⟨A2, c2, rfl⟩ := own_form hown2
      have a2 := (HGO.out.below HB1.out).grown hg2 (ownT_ne (own_below HOW.out HB1.out) (HGO.out.below HB1.out) (by decide))
      have d2 := (HGW.out.below HB1.out).grown hg2 (ownT_ne (own_below HOW.out HB1.out) (HGW.out.below HB1.out) (by decide))
      have f0 := a2.frozen 0
      have f1 := (d2.other (p := ⟨go, 0, none⟩) (fun e => HNE.out e.symm) (.slice A2 (yj.length + zs.length) c2)).frozen 0
      have e1 := (d2.other (p := ⟨go, 0, none⟩) (fun e => HNE.out e.symm) (.slice A2 (yj.length + zs.length) c2)).cell (i := 0) rfl
      have e0 := a2.cell (i := 0) rfl
      have HRD := Lib.hid (fun r => pk_round hpk.out HGO.out HOW.out HGW.out HB1.out hg2 hown2 HLW2.out HLG.out HLW.out HNE.out r)
      have HEQ : Hid (∀ r, r = (bk && q) → PB ((w2.setCell ⟨go, 0, none⟩ (.slice A2 (yj.length + zs.length) c2)).setCell ⟨gw, 0, none⟩ (.bool r)) lo go gw (ys ++ (l.take (j + 1)).flatMap (fun x => putZig [] x)) (ok && (l.take (j + 1)).all zigOk) ∧ PK lo go gw w ((w2.setCell ⟨go, 0, none⟩ (.slice A2 (yj.length + zs.length) c2)).setCell ⟨gw, 0, none⟩ (.bool r))) := Lib.hid (fun r hr => by
        have h := HRD.out r
        rw [HX.out, HA.out, ← Bool.and_assoc, HBB.out, ← List.append_assoc, HYS.out, ← hr]
        exact h)
      clear a2 d2 hown2 hg2 HRD c0
      cases bk with
      | false =>
        go_wp2
        go_roundw
        case rel => exact ⟨j + 1, by omega, by go_num, Lib.hid (HEQ.out false rfl).1, Lib.hid (HEQ.out false rfl).2⟩
        case measure => simp [intOf]; omega
      | true =>
        go_wp2
        go_roundw
        case rel => exact ⟨j + 1, by omega, by go_num, Lib.hid (HEQ.out q rfl).1, Lib.hid (HEQ.out q rfl).2⟩
        case measure => simp [intOf]; omega
    · obtain rfl : j = n := by omega
      go_wp2
      go_end0
      have h := hpb.out
      rw [List.take_of_length_le (by rw [HL.out]; exact Nat.le_refl _)] at h
      exact ⟨rfl, h, hpk.out⟩

set_option maxRecDepth 10000 in
set_option maxHeartbeats 2000000 in
theorem writePutFix_any (A : Option Addr) (n c lo go gw : Nat) (l : List Int) (ys : List Nat) (ok : Bool) (w : World) (hp : PB w lo go gw ys ok) (hr : ∀ W, PK lo go gw w W → SlI W A n l) (hn : n ≤ 1048576) (hy : ys.length + 7 * n ≤ 33554432) (hsz : lo ≤ w.heap.size) (hlg : lo ≤ go) (hlw : lo ≤ gw) (hne : go ≠ gw) :
    Calls Try.prog 99 #[.func (.func 81) #[] #[], .slice A n c, .pointer (some ⟨go, 0, none⟩), .pointer (some ⟨gw, 0, none⟩)] w fun e w' => e = .returned (.tuple #[]) ∧ PB w' lo go gw (ys ++ l.flatMap (fun x => putFix [] x)) (ok && l.all numOk) ∧ PK lo go gw w w' := by
  obtain ⟨i0, hi, hz0, hz1, hz2⟩ := info_parts Try.infoByte
  have HL := Lib.hid (hr w (PK.refl _ _ _ _)).len
  have HR := Lib.hid hr
  have HP0 : Hid (PB w lo go gw (ys ++ (l.take 0).flatMap (fun x => putFix [] x)) (ok && (l.take 0).all numOk)) := Lib.hid (by simpa using hp)
  have HSZ := Lib.hid hsz
  have HLG := Lib.hid hlg
  have HLW := Lib.hid hlw
  have HNE := Lib.hid hne
  clear hr hp hsz hlg hlw hne
  go_enter Try.func99, Try.ntmps99
  go_wp2
  go_loopw [7, 8, 9, 12] (fun _ _ _ i wr => ∃ j : Nat, j ≤ n ∧ i = .int .i64 (j : Int) ∧ Hid (PB wr lo go gw (ys ++ (l.take j).flatMap (fun x => putFix [] x)) (ok && (l.take j).all numOk)) ∧ Hid (PK lo go gw w wr)) (fun _ _ _ i _ => n - (intOf i).toNat)
  case atStart => exact ⟨0, Nat.zero_le _, rfl, HP0, Lib.hid (PK.refl _ _ _ _)⟩
  case round =>
    clear HP0
    obtain ⟨j, hj, rfl, hpb, hpk⟩ := hrel
    by_cases hlt : j < n
    · have hsl := HR.out wr hpk.out
      obtain ⟨b, off, x, rfl, hbw, hxs, hc⟩ := hsl.at_ hlt
      have HX := Lib.hid (pk_flat_step (fun x => putFix [] x) l j x hxs.out)
      have HA := Lib.hid (pk_all_step numOk l j x hxs.out)
      have hzl : (putFix [] x).length ≤ 7 := by have := putFix_length [] x; simpa using this
      have HYL : Hid ((ys ++ (l.take j).flatMap (fun x => putFix [] x)).length ≤ ys.length + 7 * j) := Lib.hid (by
        have := pk_flat_len (fun x : Int => putFix [] x) 7 (fun x => by have := putFix_length [] x; simpa using this) (l.take j)
        rw [List.length_append]
        rw [List.length_take] at this
        omega)
      obtain ⟨⟨v, hgo, hown⟩, hgw⟩ := hpb.out
      have CP := Lib.hid (fun W => implPutFix none 0 0 x [] W Rd.nil (by omega))
      generalize hys : ys ++ (l.take j).flatMap (fun x => putFix [] x) = yj at HX HYL hown hpb
      generalize hzs : putFix [] x = zs at HX hzl CP
      have HYS := Lib.hid hys
      have HZS := Lib.hid hzs
      generalize hbb : (ok && (l.take j).all numOk) = bk at hgw hpb
      generalize hqq : numOk x = q at HA CP
      have HBB := Lib.hid hbb
      have HQQ := Lib.hid hqq
      have hyl := HYL.out
      have HGO := Lib.hid hgo
      have HGW := Lib.hid hgw
      have HOW := Lib.hid hown
      have HLW2 := Lib.hid (Nat.le_trans HSZ.out hpk.out.below.size)
      clear hsl hxs hgo hgw hown hpb hys hzs hbb hqq HYL
      go_wp2_with fail
      refine (CP.out _).mono ?_
      rintro e w1 ⟨A1, c1, rfl, hon, hb1⟩
      have HB1 := Lib.hid hb1
      have c0 := (HGO.out.below hb1).cell (i := 0) rfl
      have HON := Lib.hid hon
      have hbs : lo ≤ w1.heap.size := Nat.le_trans HLW2.out hb1.size
      clear hon hb1 hc
      go_wp2_with (at_builtin; refine wpList_append_any _ rfl (.tmp 22) (.tmp 23) _ rfl lo 5 i0 _ 1 1 Try.underlying55 hi hz0 hz1 hz2 rfl (by omega) v yj.length (vb yj) rfl (own_below HOW.out HB1.out) w1.heap.size A1 zs.length c1 (vb zs) rfl (Reads.of_own HON.out) (vb_oneCell zs) (by simp only [maxLen]; omega) (by omega) (by omega) ?_)
      intro v2 w2 hown2 hg2 _
      obtain ⟨A2, c2, rfl⟩ := own_form hown2
      have a2 := (HGO.out.below HB1.out).grown hg2 (ownT_ne (own_below HOW.out HB1.out) (HGO.out.below HB1.out) (by decide))
      have d2 := (HGW.out.below HB1.out).grown hg2 (ownT_ne (own_below HOW.out HB1.out) (HGW.out.below HB1.out) (by decide))
      have f0 := a2.frozen 0
      have f1 := (d2.other (p := ⟨go, 0, none⟩) (fun e => HNE.out e.symm) (.slice A2 (yj.length + zs.length) c2)).frozen 0
      have e1 := (d2.other (p := ⟨go, 0, none⟩) (fun e => HNE.out e.symm) (.slice A2 (yj.length + zs.length) c2)).cell (i := 0) rfl
      have e0 := a2.cell (i := 0) rfl
      have HRD := Lib.hid (fun r => pk_round hpk.out HGO.out HOW.out HGW.out HB1.out hg2 hown2 HLW2.out HLG.out HLW.out HNE.out r)
      have HEQ : Hid (∀ r, r = (bk && q) → PB ((w2.setCell ⟨go, 0, none⟩ (.slice A2 (yj.length + zs.length) c2)).setCell ⟨gw, 0, none⟩ (.bool r)) lo go gw (ys ++ (l.take (j + 1)).flatMap (fun x => putFix [] x)) (ok && (l.take (j + 1)).all numOk) ∧ PK lo go gw w ((w2.setCell ⟨go, 0, none⟩ (.slice A2 (yj.length + zs.length) c2)).setCell ⟨gw, 0, none⟩ (.bool r))) := Lib.hid (fun r hr => by
        have h := HRD.out r
        rw [HX.out, HA.out, ← Bool.and_assoc, HBB.out, ← List.append_assoc, HYS.out, ← hr]
        exact h)
      clear a2 d2 hown2 hg2 HRD c0
      cases bk with
      | false =>
        go_wp2
        go_roundw
        case rel => exact ⟨j + 1, by omega, by go_num, Lib.hid (HEQ.out false rfl).1, Lib.hid (HEQ.out false rfl).2⟩
        case measure => simp [intOf]; omega
      | true =>
        go_wp2
        go_roundw
        case rel => exact ⟨j + 1, by omega, by go_num, Lib.hid (HEQ.out q rfl).1, Lib.hid (HEQ.out q rfl).2⟩
        case measure => simp [intOf]; omega
    · obtain rfl : j = n := by omega
      go_wp2
      go_end0
      have h := hpb.out
      rw [List.take_of_length_le (by rw [HL.out]; exact Nat.le_refl _)] at h
      exact ⟨rfl, h, hpk.out⟩
/-! ### the unpacker -/
/-- The unpacker's two variables. -/
structure UB (w : World) (gb ga : Nat) (A : Option Addr) (n c : Nat) (a : Int) : Prop where
  b : Blk w gb #[.slice A n c] 55
  a : Blk w ga #[.int .i64 a] 3
theorem UB.below {w w' : World} {gb ga n c : Nat} {A : Option Addr} {a : Int} (h : UB w gb ga A n c a) (hb : Below w.heap.size w w') : UB w' gb ga A n c a := ⟨h.b.below hb, h.a.below hb⟩
theorem UB.put {w : World} {gb ga n c : Nat} {A : Option Addr} {a : Int} (h : UB w gb ga A n c a) (hne : gb ≠ ga) (v : Int) : UB (w.setCell ⟨ga, 0, none⟩ (.int .i64 v)) gb ga A n c v := ⟨h.b.other (p := ⟨ga, 0, none⟩) hne _, h.a.set 0 _⟩
theorem unpacker_any (A : Option Addr) (n c : Nat) (a : Int) (w : World) :
    Calls Try.prog 77 #[.slice A n c, .int .i64 a] w fun e w' => e = .returned (.tuple #[.func (.func 103) #[] #[.pointer (some ⟨w.heap.size, 0, none⟩), .pointer (some ⟨w.heap.size + 1, 0, none⟩)], .func (.func 104) #[] #[.pointer (some ⟨w.heap.size + 1, 0, none⟩)]]) ∧
      UB w' w.heap.size (w.heap.size + 1) A n c a ∧ Below w.heap.size w w' := by
  have hmf : ∀ (fn : Fn) (first cap : Array Value) (w : World), (Instr.makeFunc fn first cap).run Try.prog w = .ok (.func fn first cap) w := fun _ _ _ _ => rfl
  go_enter Try.func77, Try.ntmps77
  go_wp2
  go_ret2
  have a1 := Blk.new w #[.slice A n c] 55
  have c1 := Blk.new (w.alloc (.cells #[.slice A n c] 55)) #[.int .i64 a] 3
  exact ⟨by simp, ⟨a1.alloc _, by simpa using c1⟩, below_a2 _ _ _⟩
theorem end_any {w : World} {gb ga n c : Nat} {A : Option Addr} {a : Int} (h : UB w gb ga A n c a) :
    Calls Try.prog 104 #[.pointer (some ⟨ga, 0, none⟩)] w fun e w' => e = .returned (.int .i64 a) ∧ w = w' := by
  have c1 := h.a.cell (i := 0) rfl
  clear h
  go_enter Try.func104, Try.ntmps104
  go_wp2
  go_ret
  exact ⟨rfl, rfl⟩
theorem nextFix_any (A : Option Addr) (n c : Nat) (a : Int) (xs : List Nat) (w : World) (hr : Rd w A n xs) (hn : n ≤ 2097152) (h1 : -9223372036854775808 ≤ a) (h2 : a ≤ 9223372036854775807) :
    Calls Try.prog 84 #[.slice A n c, .int .i64 a] w fun e w' => e = .returned (.tuple #[.int .i64 (vF xs a n), .int .i64 (if fixOk a n then a + 6 else 0), .bool (fixOk a n)]) ∧ w = w' := by
  have C := Lib.hid (implGetFix A n c a xs w hr hn h1 h2)
  unfold fixVal at C
  unfold vF
  cases hf : fixOk a n with
  | true =>
    have h3 : 0 ≤ a ∧ a + 6 ≤ n := by simpa [fixOk] using hf
    rw [hf] at C
    generalize ((fixNat xs a.toNat 6 : Nat) : Int) = v at C
    have C2 : Hid (Calls Try.prog 105 #[.slice A n c, .int .i64 a] w fun e w' => e = .returned (.tuple #[.int .i64 v, .bool true]) ∧ w = w') := Lib.hid (by simpa using C.out)
    clear C hr hf
    go_enter Try.func84, Try.ntmps84
    go_wp2_with fail
    refine C2.out.mono ?_
    rintro e w' ⟨rfl, rfl⟩
    go_wp2
    go_ret3
    exact ⟨by simp, rfl⟩
  | false =>
    rw [hf] at C
    have C2 : Hid (Calls Try.prog 105 #[.slice A n c, .int .i64 a] w fun e w' => e = .returned (.tuple #[.int .i64 0, .bool false]) ∧ w = w') := Lib.hid (by simpa using C.out)
    clear C hr hf
    go_enter Try.func84, Try.ntmps84
    go_wp2_with fail
    refine C2.out.mono ?_
    rintro e w' ⟨rfl, rfl⟩
    go_wp2
    go_ret3
    exact ⟨by simp, rfl⟩

set_option maxHeartbeats 1000000 in
theorem readVar_any {w : World} {gb ga n c : Nat} {A : Option Addr} {a : Int} {xs : List Nat} (h : UB w gb ga A n c a) (hr : Rd w A n xs) (hn : n ≤ 2097152) :
    Calls Try.prog 103 #[.func (.func 78) #[] #[], .pointer (some ⟨gb, 0, none⟩), .pointer (some ⟨ga, 0, none⟩)] w fun e w' => e = .returned (.int .i64 (gvN xs a n)) ∧ w' = w.setCell ⟨ga, 0, none⟩ (.int .i64 (nxV xs a n)) := by
  have c0 := h.b.cell (i := 0) rfl
  have c1 := h.a.cell (i := 0) rfl
  have f1 := h.a.frozen 0
  have C := Lib.hid (implGetVar A n c a xs w hr hn)
  unfold gvVal at C
  unfold nxV
  cases hg : gv xs a n with
  | true =>
    rw [hg] at C
    try simp only [if_pos] at C
    generalize gvN xs a n = v at C ⊢
    generalize gvE xs a n = p at C ⊢
    clear h hr
    go_enter Try.func103, Try.ntmps103
    go_wp2_with fail
    refine C.out.mono ?_
    rintro e w' ⟨rfl, rfl⟩
    go_wp2
    go_ret
    exact ⟨by simp, by simp⟩
  | false =>
    rw [hg] at C
    have hv0 : gvN xs a n = 0 := by simp [gvN, hg]
    rw [hv0] at C ⊢
    generalize gvE xs a n = p at C
    clear h hr
    go_enter Try.func103, Try.ntmps103
    go_wp2_with fail
    refine C.out.mono ?_
    rintro e w' ⟨rfl, rfl⟩
    go_wp2
    go_ret
    exact ⟨by simp, by simp⟩

set_option maxHeartbeats 1000000 in
theorem readZig_any {w : World} {gb ga n c : Nat} {A : Option Addr} {a : Int} {xs : List Nat} (h : UB w gb ga A n c a) (hr : Rd w A n xs) (hn : n ≤ 2097152) :
    Calls Try.prog 103 #[.func (.func 79) #[] #[], .pointer (some ⟨gb, 0, none⟩), .pointer (some ⟨ga, 0, none⟩)] w fun e w' => e = .returned (.int .i64 (vZ xs a n)) ∧ w' = w.setCell ⟨ga, 0, none⟩ (.int .i64 (nxV xs a n)) := by
  have c0 := h.b.cell (i := 0) rfl
  have c1 := h.a.cell (i := 0) rfl
  have f1 := h.a.frozen 0
  have C := Lib.hid (implGetZig A n c a xs w hr hn)
  unfold gzVal at C
  unfold nxV vZ
  cases hg : gv xs a n with
  | true =>
    rw [hg] at C
    try simp only [if_pos] at C
    generalize unzig (gvN xs a n) = v at C ⊢
    generalize gvE xs a n = p at C ⊢
    clear h hr
    go_enter Try.func103, Try.ntmps103
    go_wp2_with fail
    refine C.out.mono ?_
    rintro e w' ⟨rfl, rfl⟩
    go_wp2
    go_ret
    exact ⟨by simp, by simp⟩
  | false =>
    rw [hg] at C
    simp only [Bool.false_eq_true, if_false] at C
    generalize gvE xs a n = p at C
    clear h hr
    go_enter Try.func103, Try.ntmps103
    go_wp2_with fail
    refine C.out.mono ?_
    rintro e w' ⟨rfl, rfl⟩
    go_wp2
    go_ret
    exact ⟨by simp, by simp⟩

set_option maxHeartbeats 1000000 in
theorem readFix_any {w : World} {gb ga n c : Nat} {A : Option Addr} {a : Int} {xs : List Nat} (h : UB w gb ga A n c a) (hr : Rd w A n xs) (hn : n ≤ 2097152) (h1 : -9223372036854775808 ≤ a) (h2 : a ≤ 9223372036854775807) :
    Calls Try.prog 103 #[.func (.func 84) #[] #[], .pointer (some ⟨gb, 0, none⟩), .pointer (some ⟨ga, 0, none⟩)] w fun e w' => e = .returned (.int .i64 (vF xs a n)) ∧ w' = w.setCell ⟨ga, 0, none⟩ (.int .i64 (nxF a n)) := by
  have c0 := h.b.cell (i := 0) rfl
  have c1 := h.a.cell (i := 0) rfl
  have f1 := h.a.frozen 0
  have C := Lib.hid (nextFix_any A n c a xs w hr hn h1 h2)
  unfold vF at C
  unfold nxF vF
  cases hg : fixOk a n with
  | true =>
    rw [hg] at C
    try simp only [if_pos] at C
    generalize ((fixNat xs a.toNat 6 : Nat) : Int) = v at C ⊢
    generalize a + 6 = p at C ⊢
    clear h hr
    go_enter Try.func103, Try.ntmps103
    go_wp2_with fail
    refine C.out.mono ?_
    rintro e w' ⟨rfl, rfl⟩
    go_wp2
    go_ret
    exact ⟨by simp, by simp⟩
  | false =>
    rw [hg] at C
    simp only [Bool.false_eq_true, if_false] at C
    clear h hr
    go_enter Try.func103, Try.ntmps103
    go_wp2_with fail
    refine C.out.mono ?_
    rintro e w' ⟨rfl, rfl⟩
    go_wp2
    go_ret
    exact ⟨by simp, by simp⟩

end Go.Proofs.Ytmbabbapcjphgaa
