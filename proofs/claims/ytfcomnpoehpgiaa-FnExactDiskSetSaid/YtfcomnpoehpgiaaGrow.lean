/- An entry of the map is appended to: what the other entries keep, and what storing the longer slice leaves. -/
import Derived.Test.YtfcomnpoehpgiaaApply
namespace Go.Proofs.Ytfcomnpoehpgiaa
open Go.RowKit Go.Maps

structure RestIs (w : World) (lo mb : Nat) (es : List Ent) (s : ByteArray) : Prop where
  own : w.ownsMap Try.prog 9 rawR mb es.length (mapD es)
  base : lo ≤ mb
  ok : ∀ e ∈ lessK Ent.nm s es, e.d.Ok w
  room : ∀ e ∈ lessK Ent.nm s es, e.d.n < e.d.c → w.ownsRow lo 5 1 e.d.v e.d.n (vb e.d.xs)
  apart : (lessK Ent.nm s es).Pairwise Gap

section
variable {w w1 : World} {lo mb : Nat} {es : List Ent}
theorem RestIs.stored {x : Ent} {k : Nat} (h : RestIs w lo mb es x.nm) (hg : w.grownBy w1 (some mb)) (ho : w1.ownsMap Try.prog 9 rawR mb k ((mapD es).put (nmL x.nm) (.held (.slice x.d.A x.d.n x.d.c)))) (hx : x.d.Ok w) (hr : x.d.n < x.d.c → w.ownsRow lo 5 1 x.d.v x.d.n (vb x.d.xs)) (ha : ∀ e ∈ lessK Ent.nm x.nm es, Gap x e) : MapIs w1 lo mb (withK Ent.nm x es) := by
  rw [mapD_put] at ho
  obtain ⟨a, c, hb, _⟩ := h.own
  refine ⟨tight ho, h.base, fun e he => ?_, fun e he hc => ?_, ?_⟩
  · rcases insK_mem.1 he with rfl | he
    · exact ⟨rd_map hx.rd hg hb, hx.cap⟩
    · exact ⟨rd_map (h.ok e he).rd hg hb, (h.ok e he).cap⟩
  · rcases insK_mem.1 he with rfl | he
    · exact own_map (hr hc) hg hb
    · exact own_map (h.room e he hc) hg hb
  · exact ((insK_perm x (lessK Ent.nm x.nm es)).pairwise_iff (fun {a b} (hh : Gap a b) => hh.symm)).2 (List.pairwise_cons.2 ⟨ha, h.apart⟩)
theorem MapIs.rest_below (h : MapIs w lo mb es) (hb : Below w.heap.size w w1) (s : ByteArray) : RestIs w1 lo mb es s :=
  ⟨(h.below hb).own, h.base, fun e he => (h.below hb).ok e (lessK_mem he).1, fun e he hc => (h.below hb).room e (lessK_mem he).1 hc, h.apart.filter _⟩
theorem MapIs.lies (h : MapIs w lo mb es) {e : Ent} (he : e ∈ es) (hc : e.d.c ≠ 0) {b : Nat} (hb : e.d.v.ownBlock = some b) : b < w.heap.size := by
  by_cases hr : e.d.n < e.d.c
  · exact ((h.room e he hr).lt b hb).2
  · have := (h.ok e he).cap
    obtain ⟨g, off, e2, hlt, _⟩ := (h.ok e he).rd.lies (by omega)
    have : g = b := by simpa [Dat.v, Value.ownBlock, e2] using hb
    omega
theorem MapIs.rest_room {e : Ent} (h : MapIs w lo mb es) (he : e ∈ es) (hr : e.d.n < e.d.c) (hg : w.grownBy w1 e.d.v.ownBlock) : RestIs w1 lo mb es e.nm := by
  obtain ⟨a, c, hb, _⟩ := h.own
  have hne : e.d.v.ownBlock ≠ some mb := fun e2 => by
    rcases (h.room e he hr).2 with ⟨h1, _⟩ | ⟨g, cap, cur, h1, _, hh, _⟩
    · rw [h1] at e2
      simp [Value.ownBlock] at e2
    · rw [h1] at e2
      have : g = mb := by simpa [Value.ownBlock] using e2
      subst this
      rw [hb] at hh
      cases hh
  have hap : ∀ f ∈ lessK Ent.nm e.nm es, f.d.c ≠ 0 → e.d.v.ownBlock = none ∨ e.d.v.ownBlock ≠ f.d.v.ownBlock := fun f hf hc => by
    obtain ⟨h1, h2⟩ := lessK_mem hf
    rcases h.gap he h1 (fun e => h2 e.symm) (.inl hr) with h3 | h3 | h3
    · omega
    · exact absurd h3 hc
    · exact h3
  refine ⟨h.own.kept hg (fun e => hne e.symm), h.base, fun f hf => ?_, fun f hf hc => ?_, h.apart.filter _⟩
  · obtain ⟨h1, _⟩ := lessK_mem hf
    have hk := h.ok f h1
    refine ⟨⟨hk.rd.len, hk.rd.small, fun hn => ?_⟩, hk.cap⟩
    obtain ⟨b, off, e2, hlt, hcells⟩ := hk.rd.lies hn
    have hs := hg.size
    refine ⟨b, off, e2, by omega, fun j u hu => (World.cell?_of_block (a := ⟨b, off + j, none⟩) (hg.block b hlt (fun e3 => ?_))).trans (hcells j u hu)⟩
    have hfb : f.d.v.ownBlock = some b := by simp [Dat.v, Value.ownBlock, e2]
    have := hk.cap
    rcases hap f hf (by omega) with h4 | h4
    · rw [h4] at e3
      cases e3
    · exact h4 (by rw [hfb, e3])
  · obtain ⟨h1, _⟩ := lessK_mem hf
    refine (h.room f h1 hc).kept hg ?_
    rcases hap f hf (by omega) with h4 | h4
    · cases hf2 : f.d.v.ownBlock with
      | none => exact .inl rfl
      | some b => exact .inr (by rw [h4]; simp)
    · exact .inr (fun e => h4 e.symm)
/-- What an append makes lies in the entry's own block or in a new one. -/
theorem gap_new {e x : Ent} (h : MapIs w lo mb es) (he : e ∈ es) (hx : (x.d.v.ownBlock = e.d.v.ownBlock ∧ (x.d.n < x.d.c → e.d.n < e.d.c) ∧ (e.d.c = 0 → x.d.c = 0)) ∨ x.d.v.ownBlock = some w.heap.size) : ∀ f ∈ lessK Ent.nm e.nm es, Gap x f := fun f hf hh => by
  obtain ⟨h1, h2⟩ := lessK_mem hf
  by_cases hc : f.d.c = 0
  · exact .inr (.inl hc)
  rcases hx with ⟨h3, h4, h5⟩ | h3
  · rcases h.gap he h1 (fun e => h2 e.symm) (hh.imp_left h4) with h6 | h6 | h6
    · exact .inl (h5 h6)
    · exact .inr (.inl h6)
    · exact .inr (.inr (by unfold Apart at *; rw [h3]; exact h6))
  · refine .inr (.inr (.inr ?_))
    rw [h3]
    intro e2
    have := h.lies h1 hc e2.symm
    omega
end

section
variable {P : Program}
theorem step_lookup_raw (w : World) {ops : Array Oper} {o : Oper} {a : Act} {K : Act → World → Prop} {Q : Exit → Act → World → Prop} {E : Prop} (hg : o.guard = none) (m x : Operand) (t : TypeId) (hop : o.op = Op.lookup t m x false) (k e : TypeId) (K0 : Keyed P k) (ht : P.underlying t = some (.map k e)) (hz : (zeroValue e).run P w = .ok (.slice none 0 0) w) (b n : Nat) (D : DataW Value)
    (hm : a.eval m = .map (some b)) (hown : w.ownsMap P k rawR b n D) (key : Value) (kl : Lit) (hx : a.eval x = key) (hkey : keyOf P k key = some kl) (A : Option Addr) (n2 c : Nat) (hat : ∀ z, D.atKey kl z = .held (.slice A n2 c))
    (hK : K (a.put o.dst (.slice A n2 c)) w) : if Region.wanted o (yielded ops a.tmps) = true then Oper.wp P o a w K Q else E := by
  have hw : Region.wanted o (yielded ops a.tmps) = true := by simp [Region.wanted, hg]
  rw [if_pos hw]
  have hrun := look_raw hown K0 ht hz hkey hat
  unfold Oper.wp
  simp [execOp, hop, hm, hx, hrun, Result.andThen]
  exact hK
theorem step_store_raw (w : World) {ops : Array Oper} {o : Oper} {a : Act} {K : Act → World → Prop} {Q : Exit → Act → World → Prop} {E : Prop} (hg : o.guard = none) (m x v : Operand) (t : TypeId) (hop : o.op = Op.mapUpdate t m x v) (k e : TypeId) (K0 : Keyed P k) (ht : P.underlying t = some (.map k e)) (b n : Nat) (D : DataW Value)
    (hm : a.eval m = .map (some b)) (hown : w.ownsMap P k rawR b n D) (hn : n < maxLen) (key val : Value) (kl : Lit) (hx : a.eval x = key) (hv : a.eval v = val) (hkey : keyOf P k key = some kl) (d : DataW Value) (ps : List MemPlace) (hval : rawR val = some (d, ps))
    (hK : ∀ w', w'.ownsMap P k rawR b (n + 1) (D.put kl d) → w.grownBy w' (some b) → K (a.put o.dst undef) w') : if Region.wanted o (yielded ops a.tmps) = true then Oper.wp P o a w K Q else E := by
  have hw : Region.wanted o (yielded ops a.tmps) = true := by simp [Region.wanted, hg]
  rw [if_pos hw]
  obtain ⟨w', hrun, r1, r2⟩ := hown.update K0 ht hn hkey hval
  unfold Oper.wp
  simp [execOp, hop, hm, hx, hv, hrun, Result.andThen]
  exact hK w' r1 r2
end
end Go.Proofs.Ytfcomnpoehpgiaa
