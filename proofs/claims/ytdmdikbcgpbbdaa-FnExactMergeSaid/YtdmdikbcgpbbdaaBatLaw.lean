/- The contracts of the laws' helpers that measure and copy lists of batches; the opening of an argument that is a list of batches. Condition: at most 2^21 of each. -/
import Derived.Test.YtdmdikbcgpbbdaaBat
import Derived.Test.YtdmdikbcgpbbdaaBatEq
import Derived.Test.YtdmdikbcgpbbdaaRecLaw
import Derived.Test.YtdmdikbcgpbbdaaRecArg
import Derived.Test.YtdmdikbcgpbbdaaBlk
namespace Go.Proofs.Ytdmdikbcgpbbdaa
open Go.RowKit

theorem szBat_any (A : Option Addr) (n c : Nat) (left : Int) (w : World) (hn : n ≤ maxLen) (h0 : 0 ≤ left) (h1 : left ≤ 1048576) :
    Calls Try.prog 75 #[.agg #[.slice A n c], .int .i64 left] w (GNum w (leftG left n)) := by
  have C := Lib.hid (fun W => szRecs_any A n c left W hn h0 h1)
  by_cases h : (n : Int) ≤ left
  · rw [leftG_pos h] at C ⊢
    have hp : 0 ≤ left - (n : Int) := by omega
    generalize left - (n : Int) = q at C hp ⊢
    clear h
    go_enter Try.func75, Try.ntmps75
    go_wp2_with fail
    refine (C.out _).mono ?_
    rintro e w1 ⟨rfl, rfl⟩
    go_wp2
    go_ret
    exact ⟨rfl, below_a1 _ _⟩
  · rw [leftG_neg (by omega)] at C ⊢
    clear h
    go_enter Try.func75, Try.ntmps75
    go_wp2_with fail
    refine (C.out _).mono ?_
    rintro e w1 ⟨rfl, rfl⟩
    go_wp2
    go_ret
    exact ⟨rfl, below_a1 _ _⟩
theorem sumN_append (xs ys : List BE) : sumN (xs ++ ys) = sumN xs + sumN ys := by simp [sumN]
theorem sumN_cons (x : BE) (ys : List BE) : sumN (x :: ys) = x.n + sumN ys := by simp [sumN]

set_option maxRecDepth 10000 in
set_option maxHeartbeats 1000000 in
theorem szBats_any (A : Option Addr) (n c : Nat) (bs : List BE) (left : Int) (w : World) (hr : SlT w A n bs) (hn : n ≤ maxLen) (hs : ∀ e ∈ bs, e.n ≤ maxLen) (h0 : 0 ≤ left) (h1 : left ≤ 1048576) :
    Calls Try.prog 42 #[.slice A n c, .int .i64 left] w (GNum w (leftG left (n + sumN bs))) := by
  unfold maxLen at hn
  have HR := Lib.hid hr
  have HL := Lib.hid hr.len
  have HS := Lib.hid hs
  clear hr hs
  by_cases h : (n : Int) ≤ left
  · have h2 : 0 ≤ left - (n : Int) := by omega
    obtain ⟨z, hz⟩ : ∃ z, left - (n : Int) = z := ⟨_, rfl⟩
    have HZ := Lib.hid hz
    have h3 : z ≤ 1048576 := by omega
    rw [hz] at h2
    go_enter Try.func42, Try.ntmps42
    go_wp2
    clear hz
    go_loopw [1, 5] (fun t i wr => ∃ (j : Nat) (q : Int) (pre post : List BE), j ≤ n ∧ i = .int .i64 j ∧ t = .int .i64 q ∧ 0 ≤ q ∧ q ≤ 1048576 ∧ Hid (q = z - (sumN pre : Nat)) ∧ Hid (bs = pre ++ post) ∧ Hid (pre.length = j) ∧ Hid (Below w.heap.size w wr)) (fun _ i _ => n - (intOf i).toNat)
    case atStart => exact ⟨0, z, [], bs, Nat.zero_le _, rfl, rfl, h2, h3, Lib.hid (by simp [sumN]), Lib.hid rfl, Lib.hid rfl, Lib.hid (Below.refl _ _)⟩
    case round =>
      obtain ⟨j, q, pre, post, hj, rfl, rfl, hq0, hq1, hq, hes, hpl, hbel⟩ := hrel
      by_cases hlt : j < n
      · obtain ⟨e, post, rfl⟩ : ∃ e r, post = e :: r := by
          cases post with
          | nil => exfalso; have := congrArg List.length hes.out; have := HL.out; have := hpl.out; simp at *; omega
          | cons e r => exact ⟨e, r, rfl⟩
        obtain ⟨b, off, e0, rfl, hbw, he, hok, c0⟩ := HR.out.at_ hlt
        have he0 : e0 = e := by
          have h1 := he.out
          rw [hes.out, List.getElem?_append_right (by rw [hpl.out]; exact Nat.le_refl _), hpl.out, Nat.sub_self] at h1
          simpa using h1.symm
        subst he0
        have c0 := (hbel.out.cell (p := ⟨b, off + j, none⟩) hbw).trans c0
        have C := Lib.hid (szBat_any e0.A e0.n e0.c q wr (HS.out e0 (by rw [hes.out]; simp)) hq0 hq1)
        have HSUM := Lib.hid (show sumN bs = sumN pre + e0.n + sumN post by rw [hes.out, sumN_append, sumN_cons]; omega)
        clear he hok
        by_cases hle : (e0.n : Int) ≤ q
        · rw [leftG_pos hle] at C
          have hp : 0 ≤ q - (e0.n : Int) := by omega
          obtain ⟨y, hy⟩ : ∃ y, q - (e0.n : Int) = y := ⟨_, rfl⟩
          have HY := Lib.hid hy
          have hy1 : y ≤ 1048576 := by omega
          rw [hy] at C hp
          clear hy hle
          go_wp2_with fail
          refine C.out.mono ?_
          rintro e1 w2 ⟨rfl, hb2⟩
          have HB := Lib.hid (g_chain hbel.out hb2)
          clear hb2
          go_wp2
          go_roundw
          case rel => exact ⟨j + 1, y, pre ++ [e0], post, by omega, by go_num, rfl, hp, hy1, Lib.hid (by rw [← HY.out, sumN_append, sumN_cons, hq.out]; simp [sumN]; omega), Lib.hid (by rw [hes.out]; simp), Lib.hid (by simp [hpl.out]), HB⟩
          case measure => simp [intOf]; omega
        · rw [leftG_neg (by omega)] at C
          have HV := Lib.hid (leftG_neg (left := left) (n := n + sumN bs) (by have := HSUM.out; have := hq.out; have := HZ.out; omega))
          clear hle
          go_wp2_with fail
          refine C.out.mono ?_
          rintro e1 w2 ⟨rfl, hb2⟩
          have HB := Lib.hid (g_chain hbel.out hb2)
          clear hb2
          go_wp2
          go_ret
          exact ⟨g_int HV.out.symm, HB.out⟩
      · have hpe : post = [] := by
          have h1 := congrArg List.length hes.out
          have h2 := HL.out
          have h3 := hpl.out
          rw [List.length_append] at h1
          exact List.eq_nil_of_length_eq_zero (by omega)
        subst hpe
        have hE := hes.out
        rw [List.append_nil] at hE
        have HV := Lib.hid (leftG_pos (left := left) (n := n + sumN bs) (by rw [hE]; have := hq.out; have := HZ.out; omega))
        have HQ := Lib.hid (show q = left - ((n + sumN bs : Nat) : Int) by rw [hE]; have := hq.out; have := HZ.out; omega)
        clear hE
        go_wp2
        go_ret
        exact ⟨g_int (by rw [HV.out]; exact HQ.out), hbel.out⟩
  · have HV := Lib.hid (leftG_neg (left := left) (n := n + sumN bs) (by omega))
    have h2 : left - (n : Int) < 0 := by omega
    go_enter Try.func42, Try.ntmps42
    go_wp2
    go_ret
    exact ⟨g_int HV.out.symm, Below.refl _ _⟩

/-- A new batch. -/
def MadeB1 (w : World) (n : Nat) (es : List GE) (e : Ending) (w' : World) : Prop :=
  ∃ A c, e = .returned (.agg #[.slice A n c]) ∧ w'.ownsRow w.heap.size 30 3 (.slice A n c) n (es.flatMap GE.cells) ∧ Below w.heap.size w w'
set_option maxRecDepth 10000 in
set_option maxHeartbeats 1000000 in
theorem toBat_any (A : Option Addr) (n c : Nat) (es : List GE) (w : World) (hr : SlG w A n es) (hn : n ≤ 2097152) :
    Calls Try.prog 76 #[.agg #[.slice A n c]] w (MadeB1 w n es) := by
  have hl := hr.len
  subst hl
  have C := Lib.hid (fun W (h : Below w.heap.size w W) => toRecs_any A es.length c es W (hr.below h) hn)
  clear hr
  go_enter Try.func76, Try.ntmps76
  have H3 := Lib.hid (below_a3 w (.cells #[.slice A es.length c] 107) (.cells #[.slice none 0 0] 100) (.cells #[.slice none 0 0] 100))
  go_wp2_with fail
  refine (C.out _ H3.out).mono ?_
  rintro e w1 ⟨A1, c1, rfl, ho, hb⟩
  have b1 := Blk.new (w.alloc (.cells #[.slice A es.length c] 107)) #[.slice none 0 0] 100
  have b2 := Blk.new ((w.alloc (.cells #[.slice A es.length c] 107)).alloc (.cells #[.slice none 0 0] 100)) #[.slice none 0 0] 100
  have b1 := b1.alloc (.cells #[.slice none 0 0] 100)
  have d1 := b1.below hb
  have d2 := b2.below hb
  simp only [World.size_alloc] at d1 d2
  have x1 := d1.cell (i := 0) rfl
  have x2 := d2.cell (i := 0) rfl
  have y1 := d1.frozen 0
  have y2 := d2.frozen 0
  have hz : w.heap.size + 1 + 1 + 1 ≤ w1.heap.size := by have := hb.size; simpa using this
  have HB := Lib.hid ((((g_chain H3.out hb).setCell (p := ⟨w.heap.size + 1 + 1, 0, none⟩) (by simp <;> omega) (.slice A1 es.length c1)).setCell (p := ⟨w.heap.size + 1, 0, none⟩) (by simp) (.slice A1 es.length c1)))
  have HO := Lib.hid (own_lowG (own_lowG ho (p := ⟨w.heap.size + 1 + 1, 0, none⟩) (by simp) (.slice A1 es.length c1)) (p := ⟨w.heap.size + 1, 0, none⟩) (by simp <;> omega) (.slice A1 es.length c1))
  clear b1 b2 d1 d2 ho hb
  go_wp2
  exact bodyPost_ret (v := .agg #[.slice A1 es.length c1]) (by simp [results, Try.results76, go_sem, x1]) rfl ⟨_, _, rfl, own_monoG HO.out (by simp; omega), HB.out⟩

def zeroB : BE := ⟨none, 0, 0, []⟩
theorem repB_succ (n k : Nat) (h : k < n) : List.replicate (n - k) zeroB = zeroB :: List.replicate (n - (k + 1)) zeroB := by
  rw [show n - k = (n - (k + 1)) + 1 by omega, List.replicate_succ]
theorem bat_lay {w : World} {lo ty g c n k : Nat} {made rest : List BE} {x e : BE} (h : w.ownsRow lo ty 1 (.slice (some ⟨g, 0, none⟩) n c) n ((made ++ x :: rest).flatMap BE.cells)) (hm : made.length = k) :
    (w.setCell ⟨g, k, none⟩ (.slice e.A e.n e.c)).ownsRow lo ty 1 (.slice (some ⟨g, 0, none⟩) n c) n ((made ++ e :: rest).flatMap BE.cells) ∧ w.grownBy (w.setCell ⟨g, k, none⟩ (.slice e.A e.n e.c)) (some g) := by
  have h1 := h.stored k (.slice e.A e.n e.c)
  have e1 := flat_set BE.cells 1 BE.cells_len (made ++ x :: rest) k 0 x e (.slice e.A e.n e.c) (g_get _ _ _ _ hm) (by omega) rfl
  rw [Nat.add_zero, Nat.mul_one, g_set _ _ _ _ _ hm] at e1
  rw [e1] at h1
  exact h1

set_option maxRecDepth 10000 in
set_option maxHeartbeats 2000000 in
theorem toBats_any (A : Option Addr) (n c : Nat) (bs : List BE) (w : World) (hr : SlT w A n bs) (hn : n ≤ 2097152) (hs : ∀ e ∈ bs, e.n ≤ 2097152) :
    Calls Try.prog 44 #[.slice A n c] w (MadeT w (bs.map BE.es)) := by
  obtain ⟨i0, hi, hz0, hz1, hz2⟩ := info_parts Try.infoBatch
  have HR := Lib.hid hr
  have HL := Lib.hid hr.len
  have HS := Lib.hid hs
  clear hr hs
  go_enter Try.func44, Try.ntmps44
  go_wp2_with (refine wpList_make_full _ rfl (.tmp 6) (.tmp 6) 60 rfl w.heap.size 100 i0 (.agg #[.slice none 0 0]) 1 Try.underlying60 hi hz0 hz1 .i64 .i64 _ _ n rfl rfl rfl rfl (by rw [hz2]; omega) (by unfold maxLen; omega) (Nat.le_refl _) ?_; intro w1 hown hg)
  have hb1 : Below w.heap.size w w1 := (Below.refl _ _).grown hg (Nat.le_refl _) (by simp)
  have hown1 : w1.ownsRow w.heap.size 100 1 (.slice (some ⟨w.heap.size, 0, none⟩) n n) n (([] ++ List.replicate (n - 0) zeroB).flatMap BE.cells) := by
    have h := hown
    rw [g_rep BE.cells zeroB 1 BE.cells_len (by omega) (Value.agg #[.slice none 0 0]).cells rfl n] at h
    simpa using h
  clear hown hg
  have HO1 := Lib.hid hown1
  have HB1 := Lib.hid hb1
  clear hown1 hb1
  go_loopw [4] (fun i wr => ∃ (k : Nat) (made : List BE), k ≤ n ∧ i = .int .i64 k ∧ Hid (made.length = k) ∧ Hid (made.map BE.es = (bs.take k).map BE.es) ∧ Hid (wr.ownsRow w.heap.size 100 1 (.slice (some ⟨w.heap.size, 0, none⟩) n n) n ((made ++ List.replicate (n - k) zeroB).flatMap BE.cells)) ∧ Hid (OwnL wr w.heap.size made) ∧ Hid (Below w.heap.size w wr)) (fun i _ => n - (intOf i).toNat)
  case atStart => exact ⟨0, [], Nat.zero_le _, rfl, Lib.hid rfl, Lib.hid (by simp), HO1, Lib.hid OwnL.nil, HB1⟩
  case round =>
    clear HO1 HB1
    obtain ⟨k, made, hk, rfl, hml, hmap, hown, hdat, hbel⟩ := hrel
    by_cases hlt : k < n
    · obtain ⟨b, off, e, rfl, hbw, he, hok, c0⟩ := HR.out.at_ hlt
      have c0 := (hbel.out.cell (p := ⟨b, off + k, none⟩) hbw).trans c0
      have C := Lib.hid (toBat_any e.A e.n e.c e.es wr (hok.out.rd.below hbel.out) (HS.out e (List.mem_of_getElem? he.out)))
      have HTK := Lib.hid (g_take bs k e he.out)
      have HEL := Lib.hid hok.out.rd.len
      clear he hok
      go_wp2_with fail
      refine C.out.mono ?_
      rintro e1 w2 ⟨A2, c2, rfl, ho2, hb2⟩
      have HB2 := Lib.hid (g_chain hbel.out hb2)
      have hown2 := own_below hown.out hb2
      rw [repB_succ n k hlt] at hown2
      have hlay := bat_lay (e := ⟨A2, e.n, c2, e.es⟩) hown2 hml.out
      have HL2 := Lib.hid hlay
      have hc0 : w2.cell? ⟨w.heap.size, k, none⟩ = some (.slice none 0 0) := by
        have h1 := hown2.cellAt k (by omega)
        have h2 := flat_get BE.cells 1 BE.cells_len _ k 0 zeroB (g_get made (List.replicate (n - (k + 1)) zeroB) zeroB k hml.out) (by omega)
        simp only [Nat.mul_one, Nat.add_zero] at h2
        exact h1.trans h2
      have hf0 := hown2.frozenAt k
      obtain ⟨cur, hg0⟩ := bat_block hown2
      have hone : OwnL w2 wr.heap.size [⟨A2, e.n, c2, e.es⟩] := OwnL.one (d := ⟨A2, e.n, c2, e.es⟩) ho2 HEL.out
      have hall := (hdat.out.below hb2).append (hone.mono hbel.out.size) (apartT_of_time hdat.out (Nat.le_refl _) hone (Nat.le_refl _))
      have HALL := Lib.hid (hall.kept hlay.2 (hall.far hg0 (by decide)))
      clear hown2 hlay hone hall ho2 hb2 hg0
      go_wp2
      go_roundw
      case rel =>
        refine ⟨k + 1, made ++ [⟨A2, e.n, c2, e.es⟩], by omega, by go_num, Lib.hid (by simp [hml.out]), Lib.hid (by rw [HTK.out, List.map_append, List.map_append, hmap.out]; rfl), Lib.hid ?_, HALL, Lib.hid (HB2.out.setCell (Nat.le_refl _) _)⟩
        rw [List.append_assoc]
        exact HL2.out.1
      case measure => simp [intOf]; omega
    · obtain rfl : k = n := by omega
      go_wp2
      go_ret
      have hfin := hown.out
      rw [Nat.sub_self, List.replicate_zero, List.append_nil] at hfin
      exact ⟨_, _, _, made, rfl, ⟨hfin, hml.out, hdat.out⟩, by rw [hmap.out, List.take_of_length_le (by rw [HL.out]; exact Nat.le_refl _)], hbel.out⟩

/-! ### one that came in -/
/-- What a walk is told of a list of batches that came in. -/
structure BatsIn (w : World) (A : Option Addr) (n c : Nat) (bs : List BE) : Prop where
  g : SlT w A n bs
  l : n ≤ maxLen
  e : ∀ e ∈ bs, e.n ≤ maxLen
section
variable {H : Type} {enc : TypeId × Value → H} {w : World} {base : Nat} {spare : Nat → Bool} {held : Bool}
theorem RdR.bat {lo hi : Nat} {w : World} {cs : List Value} {d : (Sh.sl edgeSh).D} (h : RdR lo hi w (.sl edgeSh) cs d) (hh : hi ≤ w.heap.size) : ∃ e : BE, cs = e.cells ∧ (e.Ok w ∧ e.n ≤ maxLen) := by
  obtain ⟨A, n, c, es, he, h1, h2, h3, h4⟩ := RdR.edges h hh
  exact ⟨⟨A, n, c, es⟩, he, ⟨h1, h2⟩, h3⟩
theorem Try.cellsBa : Try.prog.cellsOf 107 = 1 := by kernel_rfl
theorem opensBat : Opens enc Try.prog w base spare held 107 (.sl edgeSh) :=
  opens_struct Try.underlying107 Try.cellsBa (opensF_last rfl Try.cellsSRc opensRecs)
theorem opensBats : Opens enc Try.prog w base spare held 65 (.sl (.sl edgeSh)) := opens_sl Try.underlying65 Try.cellsBa (by decide) opensBat
theorem RdR.bats {lo hi : Nat} {w : World} {cs : List Value} {ds : List (Sh.sl edgeSh).D} (h : RdR lo hi w (.sl (.sl edgeSh)) cs ds) (hh : hi ≤ w.heap.size) : ∃ A n c bs, cs = [.slice A n c] ∧ BatsIn w A n c bs := by
  obtain ⟨A, n, c, e1, e2, e3, e4, h⟩ := h
  rcases Nat.eq_zero_or_pos n with h0 | h0
  · subst h0
    exact ⟨A, 0, c, [], e1, ⟨rfl, ⟨rfl, fun h => by omega⟩, by simp⟩, by omega, by simp⟩
  · obtain ⟨b, off, eA, _, hb, hall⟩ := h h0
    obtain ⟨bs, h1, h2, h3⟩ := g_build BE.cells 1 BE.cells_len (fun e => e.Ok w ∧ e.n ≤ maxLen) w b off n (fun j hj => by
      have hjl : j < ds.length := by omega
      obtain ⟨cs, _, hc, hr⟩ := hall j (ds[j]'hjl) (List.getElem?_eq_getElem hjl)
      obtain ⟨e, rfl, he⟩ := RdR.bat hr hh
      exact ⟨e, he, hc⟩)
    exact ⟨A, n, c, bs, e1, ⟨h1, ⟨by rw [flat_len _ 1 BE.cells_len, h1], fun _ => ⟨b, off, eA, by omega, h2⟩⟩, fun e he => (h3 e he).1⟩, by omega, fun e he => (h3 e he).2⟩
set_option maxRecDepth 100000 in
theorem open_bats {r : Reach} {b0 : Nat} {v : Value} {d : DataW H} {p : List MemPlace} (hv : Value.okWide Try.prog w r b0 65 v) (h : DataW.Trod enc Try.prog w base spare held 65 v d p) :
    ∃ A n c bs, v = .slice A n c ∧ BatsIn w A n c bs := by
  obtain ⟨a, len, cap, rfl⟩ := Go.WideShapes.okWide_slice Try.underlying65 hv
  obtain ⟨fuel, hf⟩ := h
  obtain ⟨x, hx⟩ := opensBats _ _ _ hf
  obtain ⟨A, n, c, bs, he, hi⟩ := RdR.bats hx (Nat.le_refl _)
  have h9 : [Value.slice a len cap] = [.slice A n c] := by simpa [Value.cells] using he
  injection h9 with h9
  exact ⟨A, n, c, bs, h9, hi⟩
end
end Go.Proofs.Ytdmdikbcgpbbdaa
