/- The contracts of the laws' helpers that measure and copy lists of shards; the opening of an argument that is a list of shards. Condition: at most 2^21 of each. -/
import Derived.Test.YtbfdhlpncblahaaHe
import Derived.Test.YtbfdhlpncblahaaHeMark
import Derived.Test.YtbfdhlpncblahaaKLaw
import Derived.Test.YtbfdhlpncblahaaKArg
namespace Go.Proofs.Ytbfdhlpncblahaa
open Go.RowKit

set_option maxRecDepth 10000 in
set_option maxHeartbeats 1000000 in
theorem szHs_any (A : Option Addr) (n c : Nat) (bs : List HE) (left : Int) (w : World) (hr : SlH w A n bs) (hn : n ≤ maxLen) (hs : ∀ e ∈ bs, e.n ≤ maxLen) (h0 : 0 ≤ left) (h1 : left ≤ 1048576) :
    Calls Try.prog 28 #[.slice A n c, .int .i64 left] w (GNum w (leftG left (n + sumH bs))) := by
  unfold maxLen at hn
  have HR := Lib.hid hr
  have HL := Lib.hid hr.len
  have HS := Lib.hid hs
  clear hr hs
  by_cases h : (n : Int) ≤ left
  · have h2 : 0 ≤ left - (n : Int) := by omega
    obtain ⟨z, hz⟩ : ∃ z, left - (n : Int) = z := ⟨_, rfl⟩
    have HZ := Lib.hid hz
    have h3 : z ≤ 1048576 := by omega
    rw [hz] at h2
    go_enter Try.func28, Try.ntmps28
    go_wp2
    clear hz
    go_loopw [1, 5] (fun t i wr => ∃ (j : Nat) (q : Int) (pre post : List HE), j ≤ n ∧ i = .int .i64 j ∧ t = .int .i64 q ∧ 0 ≤ q ∧ q ≤ 1048576 ∧ Hid (q = z - (sumH pre : Nat)) ∧ Hid (bs = pre ++ post) ∧ Hid (pre.length = j) ∧ Hid (Below w.heap.size w wr)) (fun _ i _ => n - (intOf i).toNat)
    case atStart => exact ⟨0, z, [], bs, Nat.zero_le _, rfl, rfl, h2, h3, Lib.hid (by simp [sumH]), Lib.hid rfl, Lib.hid rfl, Lib.hid (Below.refl _ _)⟩
    case round =>
      obtain ⟨j, q, pre, post, hj, rfl, rfl, hq0, hq1, hq, hes, hpl, hbel⟩ := hrel
      by_cases hlt : j < n
      · obtain ⟨e, post, rfl⟩ : ∃ e r, post = e :: r := by
          cases post with
          | nil => exfalso; have := congrArg List.length hes.out; have := HL.out; have := hpl.out; simp at *; omega
          | cons e r => exact ⟨e, r, rfl⟩
        obtain ⟨b, off, e0, rfl, hbw, he, hok, c0, c1, c2⟩ := HR.out.at_ hlt
        have he0 : e0 = e := by
          have h1 := he.out
          rw [hes.out, List.getElem?_append_right (by rw [hpl.out]; exact Nat.le_refl _), hpl.out, Nat.sub_self] at h1
          simpa using h1.symm
        subst he0
        have c0 := (hbel.out.cell (p := ⟨b, off + j * 3, none⟩) hbw).trans c0
        have c1 := (hbel.out.cell (p := ⟨b, off + j * 3 + 1, none⟩) hbw).trans c1
        have c2 := (hbel.out.cell (p := ⟨b, off + j * 3 + 2, none⟩) hbw).trans c2
        have C := Lib.hid (szShard_any e0.lo e0.hi e0.A e0.n e0.c q wr (HS.out e0 (by rw [hes.out]; simp)) hq0 hq1)
        have HSUM := Lib.hid (show sumH bs = sumH pre + e0.n + sumH post by rw [hes.out, sumH_append, sumH_cons]; omega)
        clear he hok
        by_cases hle : (e0.n : Int) ≤ q
        · rw [leftG_pos hle] at C
          have hp : 0 ≤ q - (e0.n : Int) := by omega
          obtain ⟨y, hy⟩ : ∃ y, q - (e0.n : Int) = y := ⟨_, rfl⟩
          have HY := Lib.hid hy
          have hy1 : y ≤ 1048576 := by omega
          rw [hy] at C hp
          clear hy hle
          go_wp2_with fail
          refine C.out.mono ?_
          rintro e1 w2 ⟨rfl, hb2⟩
          have HB := Lib.hid (g_chain hbel.out hb2)
          clear hb2
          go_wp2
          go_roundw
          case rel => exact ⟨j + 1, y, pre ++ [e0], post, by omega, by go_num, rfl, hp, hy1, Lib.hid (by rw [← HY.out, sumH_append, sumH_cons, hq.out]; simp [sumH]; omega), Lib.hid (by rw [hes.out]; simp), Lib.hid (by simp [hpl.out]), HB⟩
          case measure => simp [intOf]; omega
        · rw [leftG_neg (by omega)] at C
          have HV := Lib.hid (leftG_neg (left := left) (n := n + sumH bs) (by have := HSUM.out; have := hq.out; have := HZ.out; omega))
          clear hle
          go_wp2_with fail
          refine C.out.mono ?_
          rintro e1 w2 ⟨rfl, hb2⟩
          have HB := Lib.hid (g_chain hbel.out hb2)
          clear hb2
          go_wp2
          go_ret
          exact ⟨g_int HV.out.symm, HB.out⟩
      · have hpe : post = [] := by
          have h1 := congrArg List.length hes.out
          have h2 := HL.out
          have h3 := hpl.out
          rw [List.length_append] at h1
          exact List.eq_nil_of_length_eq_zero (by omega)
        subst hpe
        have hE := hes.out
        rw [List.append_nil] at hE
        have HV := Lib.hid (leftG_pos (left := left) (n := n + sumH bs) (by rw [hE]; have := hq.out; have := HZ.out; omega))
        have HQ := Lib.hid (show q = left - ((n + sumH bs : Nat) : Int) by rw [hE]; have := hq.out; have := HZ.out; omega)
        clear hE
        go_wp2
        go_ret
        exact ⟨g_int (by rw [HV.out]; exact HQ.out), hbel.out⟩
  · have HV := Lib.hid (leftG_neg (left := left) (n := n + sumH bs) (by omega))
    have h2 : left - (n : Int) < 0 := by omega
    go_enter Try.func28, Try.ntmps28
    go_wp2
    go_ret
    exact ⟨g_int HV.out.symm, Below.refl _ _⟩

def zeroH : HE := ⟨0, 0, none, 0, 0, []⟩
theorem repH_succ (n k : Nat) (h : k < n) : List.replicate (n - k) zeroH = zeroH :: List.replicate (n - (k + 1)) zeroH := by
  rw [show n - k = (n - (k + 1)) + 1 by omega, List.replicate_succ]
theorem he_lay3 {w : World} {lo ty g c n k : Nat} {made rest : List HE} {x e : HE} (h : w.ownsRow lo ty 3 (.slice (some ⟨g, 0, none⟩) n c) n ((made ++ x :: rest).flatMap HE.cells)) (hm : made.length = k) :
    (((w.setCell ⟨g, k * 3, none⟩ (.int .i64 e.lo)).setCell ⟨g, k * 3 + 1, none⟩ (.int .i64 e.hi)).setCell ⟨g, k * 3 + 2, none⟩ (.slice e.A e.n e.c)).ownsRow lo ty 3 (.slice (some ⟨g, 0, none⟩) n c) n ((made ++ e :: rest).flatMap HE.cells) ∧
      w.grownBy (((w.setCell ⟨g, k * 3, none⟩ (.int .i64 e.lo)).setCell ⟨g, k * 3 + 1, none⟩ (.int .i64 e.hi)).setCell ⟨g, k * 3 + 2, none⟩ (.slice e.A e.n e.c)) (some g) := by
  have h1 := h.stored (k * 3) (.int .i64 e.lo)
  have h2 := h1.1.stored (k * 3 + 1) (.int .i64 e.hi)
  have h3 := h2.1.stored (k * 3 + 2) (.slice e.A e.n e.c)
  have e1 := flat_set HE.cells 3 HE.cells_len (made ++ x :: rest) k 0 x ⟨e.lo, x.hi, x.A, x.n, x.c, x.es⟩ (.int .i64 e.lo) (g_get _ _ _ _ hm) (by omega) rfl
  rw [Nat.add_zero, g_set _ _ _ _ _ hm] at e1
  have e2 := flat_set HE.cells 3 HE.cells_len (made ++ ⟨e.lo, x.hi, x.A, x.n, x.c, x.es⟩ :: rest) k 1 ⟨e.lo, x.hi, x.A, x.n, x.c, x.es⟩ ⟨e.lo, e.hi, x.A, x.n, x.c, x.es⟩ (.int .i64 e.hi) (g_get _ _ _ _ hm) (by omega) rfl
  rw [g_set _ _ _ _ _ hm] at e2
  have e3 := flat_set HE.cells 3 HE.cells_len (made ++ ⟨e.lo, e.hi, x.A, x.n, x.c, x.es⟩ :: rest) k 2 ⟨e.lo, e.hi, x.A, x.n, x.c, x.es⟩ e (.slice e.A e.n e.c) (g_get _ _ _ _ hm) (by omega) rfl
  rw [g_set _ _ _ _ _ hm] at e3
  rw [e1, e2, e3] at h3
  exact ⟨h3.1, (h1.2.trans h2.2).trans h3.2⟩

set_option maxRecDepth 10000 in
set_option maxHeartbeats 2000000 in
theorem toHs_any (A : Option Addr) (n c : Nat) (bs : List HE) (w : World) (hr : SlH w A n bs) (hn : n ≤ 2097152) (hs : ∀ e ∈ bs, e.n ≤ 2097152) :
    Calls Try.prog 30 #[.slice A n c] w (MadeHs w (bs.map HE.sd)) := by
  obtain ⟨i0, hi, hz0, hz1, hz2⟩ := info_parts Try.infoShard
  have HR := Lib.hid hr
  have HL := Lib.hid hr.len
  have HS := Lib.hid hs
  clear hr hs
  go_enter Try.func30, Try.ntmps30
  go_wp2_with (refine wpList_make_full _ rfl (.tmp 6) (.tmp 6) 38 rfl w.heap.size 29 i0 (.agg #[.int .i64 0, .int .i64 0, .slice none 0 0]) 3 Try.underlying38 hi hz0 hz1 .i64 .i64 _ _ n rfl rfl rfl rfl (by rw [hz2]; omega) (by unfold maxLen; omega) (Nat.le_refl _) ?_; intro w1 hown hg)
  have hb1 : Below w.heap.size w w1 := (Below.refl _ _).grown hg (Nat.le_refl _) (by simp)
  have hown1 : w1.ownsRow w.heap.size 29 3 (.slice (some ⟨w.heap.size, 0, none⟩) n n) n (([] ++ List.replicate (n - 0) zeroH).flatMap HE.cells) := by
    have h := hown
    rw [g_rep HE.cells zeroH 3 HE.cells_len (by omega) (Value.agg #[.int .i64 0, .int .i64 0, .slice none 0 0]).cells rfl n] at h
    simpa using h
  clear hown hg
  have HO1 := Lib.hid hown1
  have HB1 := Lib.hid hb1
  clear hown1 hb1
  go_loopw [4] (fun i wr => ∃ (k : Nat) (made : List HE), k ≤ n ∧ i = .int .i64 k ∧ Hid (made.length = k) ∧ Hid (made.map HE.sd = (bs.take k).map HE.sd) ∧ Hid (wr.ownsRow w.heap.size 29 3 (.slice (some ⟨w.heap.size, 0, none⟩) n n) n ((made ++ List.replicate (n - k) zeroH).flatMap HE.cells)) ∧ Hid (OwnHL wr w.heap.size made) ∧ Hid (Below w.heap.size w wr)) (fun i _ => n - (intOf i).toNat)
  case atStart => exact ⟨0, [], Nat.zero_le _, rfl, Lib.hid rfl, Lib.hid (by simp), HO1, Lib.hid OwnHL.nil, HB1⟩
  case round =>
    clear HO1 HB1
    obtain ⟨k, made, hk, rfl, hml, hmap, hown, hdat, hbel⟩ := hrel
    by_cases hlt : k < n
    · obtain ⟨b, off, e, rfl, hbw, he, hok, c0, c1, c2⟩ := HR.out.at_ hlt
      have c0 := (hbel.out.cell (p := ⟨b, off + k * 3, none⟩) hbw).trans c0
      have c1 := (hbel.out.cell (p := ⟨b, off + k * 3 + 1, none⟩) hbw).trans c1
      have c2 := (hbel.out.cell (p := ⟨b, off + k * 3 + 2, none⟩) hbw).trans c2
      have C := Lib.hid (toShard_any e.lo e.hi e.A e.n e.c e.es wr (hok.out.rd.below hbel.out) (HS.out e (List.mem_of_getElem? he.out)))
      have HTK := Lib.hid (g_take bs k e he.out)
      have HEL := Lib.hid hok.out.rd.len
      clear he hok
      go_wp2_with fail
      refine C.out.mono ?_
      rintro e1 w2 ⟨A2, cc2, rfl, ho2, hb2⟩
      rw [HEL.out] at ho2 ⊢
      have HB2 := Lib.hid (g_chain hbel.out hb2)
      have hown2 := own_below hown.out hb2
      rw [repH_succ n k hlt] at hown2
      have hlay := he_lay3 (e := ⟨e.lo, e.hi, A2, e.n, cc2, e.es⟩) hown2 hml.out
      have HL2 := Lib.hid hlay
      have hq := fun i (hi : i < 3) => (hown2.cellAt (k * 3 + i) (by omega)).trans (flat_get HE.cells 3 HE.cells_len _ k i zeroH (g_get made (List.replicate (n - (k + 1)) zeroH) zeroH k hml.out) hi)
      have hc0 : w2.cell? ⟨w.heap.size, k * 3, none⟩ = some (.int .i64 0) := hq 0 (by omega)
      have hc1 : w2.cell? ⟨w.heap.size, k * 3 + 1, none⟩ = some (.int .i64 0) := hq 1 (by omega)
      have hc2 : w2.cell? ⟨w.heap.size, k * 3 + 2, none⟩ = some (.slice none 0 0) := hq 2 (by omega)
      have hf0 := hown2.frozenAt (k * 3)
      have hf1 := hown2.frozenAt (k * 3 + 1)
      have hf2 := hown2.frozenAt (k * 3 + 2)
      obtain ⟨cur, hg0⟩ := bat_block hown2
      have hone : OwnHL w2 wr.heap.size [⟨e.lo, e.hi, A2, e.n, cc2, e.es⟩] := OwnHL.one (d := ⟨e.lo, e.hi, A2, e.n, cc2, e.es⟩) ho2 HEL.out
      have hall := (hdat.out.below hb2).append (hone.mono hbel.out.size) (apartH_of_time hdat.out (Nat.le_refl _) hone (Nat.le_refl _))
      have HALL := Lib.hid (hall.kept hlay.2 (hall.far hg0 (by decide)))
      clear hown2 hlay hone hall ho2 hb2 hg0 hq
      go_wp2
      go_roundw
      case rel =>
        refine ⟨k + 1, made ++ [⟨e.lo, e.hi, A2, e.n, cc2, e.es⟩], by omega, by go_num, Lib.hid (by simp [hml.out]), Lib.hid (by rw [HTK.out, List.map_append, List.map_append, hmap.out]; rfl), Lib.hid ?_, HALL, Lib.hid (((HB2.out.setCell (Nat.le_refl _) _).setCell (Nat.le_refl _) _).setCell (Nat.le_refl _) _)⟩
        rw [List.append_assoc]
        exact HL2.out.1
      case measure => simp [intOf]; omega
    · obtain rfl : k = n := by omega
      go_wp2
      go_ret
      have hfin := hown.out
      rw [Nat.sub_self, List.replicate_zero, List.append_nil] at hfin
      exact ⟨_, _, _, made, rfl, ⟨hfin, hml.out, hdat.out⟩, by rw [hmap.out, List.take_of_length_le (by rw [HL.out]; exact Nat.le_refl _)], hbel.out⟩

/-! ### one that came in -/
/-- What a walk is told of a list of shards that came in. -/
structure HsIn (w : World) (A : Option Addr) (n c : Nat) (bs : List HE) : Prop where
  g : SlH w A n bs
  l : n ≤ maxLen
  e : ∀ e ∈ bs, e.n ≤ maxLen
  w : ∀ e ∈ bs, (Lit.int .i64 e.lo).wf = true ∧ (Lit.int .i64 e.hi).wf = true ∧ ∀ x ∈ e.es, KeIn x
section
variable {H : Type} {enc : TypeId × Value → H} {w : World} {base : Nat} {spare : Nat → Bool} {held : Bool}
theorem RdR.he {a b : Nat} {w : World} {cs : List Value} {d : shardSh.D} (h : RdR a b w shardSh cs d) (hh : b ≤ w.heap.size) : ∃ e : HE, cs = e.cells ∧ (e.Ok w ∧ e.n ≤ maxLen ∧ (Lit.int .i64 e.lo).wf = true ∧ (Lit.int .i64 e.hi).wf = true ∧ ∀ x ∈ e.es, KeIn x) := by
  obtain ⟨lo, hi, A, n, c, es, he, h1⟩ := RdR.shard h hh
  exact ⟨⟨lo, hi, A, n, c, es⟩, he, ⟨h1.g, h1.c⟩, h1.l, h1.lo, h1.hi, h1.e⟩
theorem opensHs : Opens enc Try.prog w base spare held 52 (.sl shardSh) := opens_sl Try.underlying52 Try.cellsShard (by decide) opensShard
theorem RdR.hes {lo hi : Nat} {w : World} {cs : List Value} {ds : List shardSh.D} (h : RdR lo hi w (.sl shardSh) cs ds) (hh : hi ≤ w.heap.size) : ∃ A n c bs, cs = [.slice A n c] ∧ HsIn w A n c bs := by
  obtain ⟨A, n, c, e1, e2, e3, e4, h⟩ := h
  rcases Nat.eq_zero_or_pos n with h0 | h0
  · subst h0
    exact ⟨A, 0, c, [], e1, ⟨rfl, ⟨rfl, fun h => by omega⟩, by simp⟩, by omega, by simp, by simp⟩
  · obtain ⟨b, off, eA, _, hb, hall⟩ := h h0
    obtain ⟨bs, h1, h2, h3⟩ := g_build HE.cells 3 HE.cells_len (fun e => e.Ok w ∧ e.n ≤ maxLen ∧ (Lit.int .i64 e.lo).wf = true ∧ (Lit.int .i64 e.hi).wf = true ∧ ∀ x ∈ e.es, KeIn x) w b off n (fun j hj => by
      have hjl : j < ds.length := by omega
      obtain ⟨cs, _, hc, hr⟩ := hall j (ds[j]'hjl) (List.getElem?_eq_getElem hjl)
      obtain ⟨e, rfl, he⟩ := RdR.he hr hh
      exact ⟨e, he, hc⟩)
    exact ⟨A, n, c, bs, e1, ⟨h1, ⟨by rw [flat_len _ 3 HE.cells_len, h1], fun _ => ⟨b, off, eA, by omega, h2⟩⟩, fun e he => (h3 e he).1⟩, by omega, fun e he => (h3 e he).2.1, fun e he => (h3 e he).2.2⟩
set_option maxRecDepth 100000 in
theorem open_hs {r : Reach} {b0 : Nat} {v : Value} {d : DataW H} {p : List MemPlace} (hv : Value.okWide Try.prog w r b0 52 v) (h : DataW.Trod enc Try.prog w base spare held 52 v d p) :
    ∃ A n c bs, v = .slice A n c ∧ HsIn w A n c bs := by
  obtain ⟨a, len, cap, rfl⟩ := Go.WideShapes.okWide_slice Try.underlying52 hv
  obtain ⟨fuel, hf⟩ := h
  obtain ⟨x, hx⟩ := opensHs _ _ _ hf
  obtain ⟨A, n, c, bs, he, hi⟩ := RdR.hes hx (Nat.le_refl _)
  have h9 : [Value.slice a len cap] = [.slice A n c] := by simpa [Value.cells] using he
  injection h9 with h9
  exact ⟨A, n, c, bs, h9, hi⟩
end
end Go.Proofs.Ytbfdhlpncblahaa
