/- What stores into and removals from a map of slices leave. -/
import Derived.Test.YtfcomnpoehpgiaaImplApp
import Derived.Test.YtfcomnpoehpgiaaAppendFull
namespace Go.Proofs.Ytfcomnpoehpgiaa
open Go.RowKit Go.Maps

theorem insK_perm {α : Type} {key : α → ByteArray} (x : α) : ∀ l : List α, (insK key x l).Perm (x :: l)
  | [] => List.Perm.refl _
  | e :: r => by
    unfold insK
    split
    · exact List.Perm.refl _
    · exact ((insK_perm x r).cons e).trans (List.Perm.swap x e r)
def Gap (a b : Ent) : Prop := (a.d.n < a.d.c ∨ b.d.n < b.d.c) → a.d.c = 0 ∨ b.d.c = 0 ∨ Apart a.d b.d
theorem Apart.symm {a b : Dat} (h : Apart a b) : Apart b a := by
  unfold Apart at *
  rcases h with h | h
  · rw [h]
    cases b.v.ownBlock <;> simp
  · exact .inr (fun e => h e.symm)
theorem Gap.symm {a b : Ent} (h : Gap a b) : Gap b a := fun hh => by
  rcases h hh.symm with h | h | h
  · exact .inr (.inl h)
  · exact .inl h
  · exact .inr (.inr h.symm)

section
variable {w w1 : World} {lo mb : Nat} {es : List Ent}
theorem rd_map {A : Option Addr} {n : Nat} {xs : List Nat} (h : Rd w A n xs) (hg : w.grownBy w1 (some mb)) {a : Array MapEntry} {c : Nat} (hb : w.heap[mb]? = some (.map a c)) : Rd w1 A n xs :=
  ⟨h.len, h.small, fun hn => by
    obtain ⟨b, off, e, hlt, hc⟩ := h.lies hn
    have hl : 0 < xs.length := by have := h.len; omega
    have h0 := hc 0 _ (List.getElem?_eq_getElem hl)
    have hne : b ≠ mb := fun e2 => by
      subst e2
      simp [World.cell?, hb] at h0
    have := hg.size
    exact ⟨b, off, e, by omega, fun j u hu => (World.cell?_of_block (a := ⟨b, off + j, none⟩) (hg.block b hlt (fun e3 => hne (by injection e3)))).trans (hc j u hu)⟩⟩
theorem own_map {base e size n : Nat} {v : Value} {xs : List Value} (h : w.ownsRow base e size v n xs) (hg : w.grownBy w1 (some mb)) {a : Array MapEntry} {c : Nat} (hb : w.heap[mb]? = some (.map a c)) : w1.ownsRow base e size v n xs := by
  refine h.kept hg ?_
  rcases h.2 with ⟨rfl, _⟩ | ⟨g, cap, cur, rfl, _, hh, _⟩
  · exact .inl rfl
  · refine .inr (fun e2 => ?_)
    have : g = mb := by simpa [Value.ownBlock] using e2
    subst this
    rw [hb] at hh
    cases hh

theorem MapIs.stored (h : MapIs w lo mb es) (hg : w.grownBy w1 (some mb)) {x : Ent} {k : Nat} (ho : w1.ownsMap Try.prog 9 rawR mb k ((mapD es).put (nmL x.nm) (.held (.slice x.d.A x.d.n x.d.c)))) (hx : x.d.Ok w) (hr : x.d.n < x.d.c → w.ownsRow lo 5 1 x.d.v x.d.n (vb x.d.xs)) (ha : ∀ e ∈ lessK Ent.nm x.nm es, Gap x e) : MapIs w1 lo mb (withK Ent.nm x es) := by
  rw [mapD_put] at ho
  obtain ⟨a, c, hb, _⟩ := h.own
  have hin : ∀ e ∈ withK Ent.nm x es, e = x ∨ e ∈ es := fun e he => by
    rcases insK_mem.1 he with rfl | he
    · exact .inl rfl
    · exact .inr (lessK_mem he).1
  refine ⟨tight ho, h.base, fun e he => ?_, fun e he hc => ?_, ?_⟩
  · rcases hin e he with rfl | he
    · exact ⟨rd_map hx.rd hg hb, hx.cap⟩
    · exact ⟨rd_map (h.ok e he).rd hg hb, (h.ok e he).cap⟩
  · rcases hin e he with rfl | he
    · exact own_map (hr hc) hg hb
    · exact own_map (h.room e he hc) hg hb
  · refine ((insK_perm x (lessK Ent.nm x.nm es)).pairwise_iff (fun {a b} (hh : Gap a b) => hh.symm)).2 (List.pairwise_cons.2 ⟨ha, h.apart.filter _⟩)
theorem MapIs.dropped (h : MapIs w lo mb es) (hg : w.grownBy w1 (some mb)) {s : ByteArray} {k : Nat} (ho : w1.ownsMap Try.prog 9 rawR mb k ((mapD es).del (nmL s))) : MapIs w1 lo mb (lessK Ent.nm s es) := by
  rw [mapD_del] at ho
  obtain ⟨a, c, hb, _⟩ := h.own
  refine ⟨tight ho, h.base, fun e he => ⟨rd_map (h.ok e (lessK_mem he).1).rd hg hb, (h.ok e (lessK_mem he).1).cap⟩, fun e he hc => own_map (h.room e (lessK_mem he).1 hc) hg hb, h.apart.filter _⟩
end

/-- What doing an operation leaves. -/
def Applied (w : World) (lo mb : Nat) (fs : List FileD) (e : Ending) (w' : World) : Prop :=
  ∃ es, e = .returned (.tuple #[]) ∧ es.map Ent.file = fs ∧ MapIs w' lo mb es ∧ Below lo w w'

set_option maxRecDepth 10000 in
set_option maxHeartbeats 2000000 in
theorem implApply_1 (lo mb : Nat) (es : List Ent) (nm to : ByteArray) (d : Dat) (w : World) (hm : MapIs w lo mb es) (hl : es.length ≤ 1048576) (hs : nm.size ≤ 1048576) :
    Calls Try.prog 70 #[.map (some mb), .agg #[.int .i64 1, .string nm, .string to, .slice d.A d.n d.c]] w (Applied w lo mb (makeF (es.map Ent.file) (1, nm, to, d.xs))) := by
  have hkey := Lib.hid (keyNm (s := nm) (by unfold maxLen; omega))
  have HM := Lib.hid hm
  have hlo : lo ≤ w.heap.size := by have := hm.base; have := hm.lt; omega
  have HV : Hid (makeF (es.map Ent.file) (1, nm, to, d.xs) = (withK Ent.nm ⟨nm, ⟨none, 0, 0, []⟩⟩ es).map Ent.file) := Lib.hid (by rw [withK_map (f := Ent.file) (key := Ent.nm) (key' := Prod.fst) (fun _ => rfl)]; rfl)
  clear hm
  go_enter Try.func70, Try.ntmps70
  go_wp2_with (at_mapUpdate; refine wpList_mapUpdate_own _ rfl _ _ _ 78 rfl 9 22 Try.keyed Try.underlying78 rawR mb es.length (mapD es) rfl (HM.out.below (below_a1 _ _)).own (by unfold maxLen; omega) _ _ _ rfl rfl hkey.out _ [] rawR_zero ?_; intro w1 ho1 hg1)
  go_end0
  refine ⟨_, rfl, HV.out.symm, (HM.out.below (below_a1 _ _)).stored (x := ⟨nm, ⟨none, 0, 0, []⟩⟩) hg1 ho1 ⟨Rd.nil, Nat.le_refl _⟩ (fun h => absurd h (by simp)) (fun e _ _ => .inl rfl), ?_⟩
  exact (((Below.refl lo w).alloc hlo _).grown hg1 (by simp; omega) (fun k hk => by injection hk with hk; have := HM.out.base; omega))
end Go.Proofs.Ytfcomnpoehpgiaa
