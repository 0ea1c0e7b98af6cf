/- 'append' onto a slice without spare room, whoever owns it: nothing comes and it stays, or it lies in new memory of the call's own (plain lemmas over the model; no condition beyond the lengths). -/
import Derived.Test.YtfcomnpoehpgiaaEnt
import Derived.Deep.Upon
namespace Go.Proofs.Ytfcomnpoehpgiaa
open Go.RowKit

/-- What an append onto a full slice gives: the slice itself, or a new row. -/
def FullApp (w : World) (e size : Nat) (A0 : Option Addr) (n m : Nat) (all : List Value) (v : Value) (w' : World) : Prop :=
  (m = 0 ∧ v = .slice A0 n n ∧ w' = w) ∨ (0 < m ∧ ∃ cap, v = .slice (some ⟨w.heap.size, 0, none⟩) (n + m) cap ∧ w'.ownsRow w.heap.size e size v (n + m) all ∧ Below w.heap.size w w')

section
variable {P : Program} (w : World)
theorem run_append_full (t ty e : TypeId) (i : TypeInfo) (z : Value) (size bytes : Nat) (ht : P.underlying t = some (.slice e)) (hi : P.info? e = some i) (hz : i.zero = some z)
    (hsize : i.size = size) (hby : i.bytes = bytes) (hzs : z.cells.size = size)
    (B0 : Nat) (A0 : Option Addr) (n : Nat) (olds : List Value) (hr0 : Reads w B0 size A0 n olds) (B : Nat) (A : Option Addr) (m c : Nat) (news : List Value) (hr : Reads w B size A m news)
    (h63 : n + m ≤ maxLen) (hbytes : (n + m) * bytes ≤ 140737488355328) :
    ∃ v w', (Builtin.append_ #[t, t] ty #[.slice A0 n n, .slice A m c]).run P w = .ok v w' ∧ FullApp w e size A0 n m (olds ++ news) v w' := by
  subst hsize hby
  rcases Nat.eq_zero_or_pos m with h0 | h0
  · subst h0
    refine ⟨.slice A0 n n, w, ?_, .inl ⟨rfl, rfl, rfl⟩⟩
    cases A <;> cases A0 <;> simp [Builtin.append_, run_underlying ht, sizeOf, typeInfo, hi, Builtin.lenOf, Builtin.firstCells, loadCells, loadCellsFrom, storeCells]
  · obtain ⟨a, rfl, _, hnews⟩ := hr.2 h0
    have hsmall : n + m ≤ 9223372036854775807 := by simp only [maxLen] at h63; omega
    have hlen : (olds ++ news).length = (n + m) * i.size := by rw [List.length_append, hr0.1, hr.1, Nat.add_mul]
    have key : ∀ (old : Nat), old < n + m → (w.drew.alloc (.cells (olds.toArray ++ news.toArray ++ Builtin.zeroCells z.cells (grownCap w (n + m) old e - (n + m))) e)).ownsRow w.heap.size e i.size (.slice (some ⟨w.heap.size, 0, none⟩) (n + m) (grownCap w (n + m) old e)) (n + m) (olds ++ news) ∧
        Below w.heap.size w (w.drew.alloc (.cells (olds.toArray ++ news.toArray ++ Builtin.zeroCells z.cells (grownCap w (n + m) old e - (n + m))) e)) := by
      intro old ho
      have hge := grownCap_ge w (n + m) old e
      have hcm : grownCap w (n + m) old e ≤ maxLen := grownCap_le_maxLen w (n + m) old e h63
      refine ⟨⟨hlen, .inr ⟨w.heap.size, _, _, rfl, Nat.le_refl _, heap_alloc_new w.drew _, hge, hcm, ?_, ?_⟩⟩, ⟨rfl, rfl, rfl, by simp, fun k hk => Below.heap_alloc w.drew _ k hk⟩⟩
      · simp only [Array.size_append, List.size_toArray, size_zeroCells, hzs, hr0.1, hr.1, ← Nat.add_mul]
        congr 1
        omega
      · simp only [Array.toList_append, List.append_assoc]
        rw [← List.append_assoc, ← hlen]
        exact List.take_left
    rcases A0 with _ | b
    · have hn : n = 0 := by
        rcases Nat.eq_zero_or_pos n with h | h
        · exact h
        · obtain ⟨_, h, _⟩ := hr0.2 h
          cases h
      subst hn
      have ho : olds = [] := List.eq_nil_of_length_eq_zero (by simpa using hr0.1)
      subst ho
      have hrun := run_append_nil (P := P) w t ty e i z ht hi hz a m c news hr.1 hnews (by omega) (by omega) (by have hb := hbytes; simp only [Nat.zero_add] at hb; omega)
      have hk := key 0 (by omega)
      simp only [Nat.zero_add, List.nil_append, Array.empty_append] at hk ⊢
      exact ⟨_, _, hrun, .inr ⟨h0, _, by rw [Nat.zero_add], by simpa using hk.1, hk.2⟩⟩
    · have holds : ∀ j u, olds[j]? = some u → w.cell? (b.add j) = some u := by
        intro j u hu
        rcases Nat.eq_zero_or_pos n with h | h
        · subst h
          have ho : olds = [] := List.eq_nil_of_length_eq_zero (by simpa using hr0.1)
          subst ho
          simp at hu
        · obtain ⟨b', hb, _, hc⟩ := hr0.2 h
          injection hb with hb
          subst hb
          exact hc j u hu
      have hrun := run_append_grow (P := P) w t ty e i z ht hi hz b n n olds hr0.1 holds a m c news hr.1 hnews (by omega) (by omega) (growslice_fits (by omega) hbytes)
      have hk := key n (by omega)
      exact ⟨_, _, hrun, .inr ⟨h0, _, rfl, hk.1, hk.2⟩⟩

theorem wp_append_full {o : Oper} {a : Act} {K : Act → World → Prop} {Q : Exit → Act → World → Prop} (s x : Operand) (t : TypeId)
    (ho : o.op = .call { callee := .builtin .append, args := #[s, x], argTypes := #[t, t] })
    (e : TypeId) (i : TypeInfo) (z : Value) (size bytes : Nat) (ht : P.underlying t = some (.slice e)) (hi : P.info? e = some i) (hz : i.zero = some z)
    (hsize : i.size = size) (hby : i.bytes = bytes) (hzs : z.cells.size = size)
    (B0 : Nat) (A0 : Option Addr) (n : Nat) (olds : List Value) (hs : a.eval s = .slice A0 n n) (hr0 : Reads w B0 size A0 n olds)
    (B : Nat) (A : Option Addr) (m c : Nat) (news : List Value) (hx : a.eval x = .slice A m c) (hr : Reads w B size A m news)
    (h63 : n + m ≤ maxLen) (hbytes : (n + m) * bytes ≤ 140737488355328)
    (h : ∀ v' w', FullApp w e size A0 n m (olds ++ news) v' w' → K (a.put o.dst v') w') : o.wp P a w K Q := by
  obtain ⟨v', w', hrun, h2⟩ := run_append_full (P := P) w t o.type e i z size bytes ht hi hz hsize hby hzs B0 A0 n olds hr0 B A m c news hr h63 hbytes
  unfold Oper.wp execOp
  simp only [ho, resolve, invoke, builtin, Sem.run_bind, Sem.run_pure, Result.andThen_ok, List.map_toArray, List.map_cons, List.map_nil, hs, hx, hrun]
  exact h v' w' h2
theorem wpList_append_full {ops : Array Oper} {rest : List Oper} {o : Oper} {a : Act} {Q : Exit → Act → World → Prop} (hgd : o.guard = none) (s x : Operand) (t : TypeId)
    (ho : o.op = .call { callee := .builtin .append, args := #[s, x], argTypes := #[t, t] })
    (e : TypeId) (i : TypeInfo) (z : Value) (size bytes : Nat) (ht : P.underlying t = some (.slice e)) (hi : P.info? e = some i) (hz : i.zero = some z)
    (hsize : i.size = size) (hby : i.bytes = bytes) (hzs : z.cells.size = size)
    (B0 : Nat) (A0 : Option Addr) (n : Nat) (olds : List Value) (hs : a.eval s = .slice A0 n n) (hr0 : Reads w B0 size A0 n olds)
    (B : Nat) (A : Option Addr) (m c : Nat) (news : List Value) (hx : a.eval x = .slice A m c) (hr : Reads w B size A m news)
    (h63 : n + m ≤ maxLen) (hbytes : (n + m) * bytes ≤ 140737488355328)
    (h : ∀ v' w', FullApp w e size A0 n m (olds ++ news) v' w' → wpList P ops Q rest (a.put o.dst v') w') : wpList P ops Q (o :: rest) a w :=
  wpList_plain hgd fun _ hK => wp_append_full w s x t ho e i z size bytes ht hi hz hsize hby hzs B0 A0 n olds hs hr0 B A m c news hx hr h63 hbytes fun v' w' h2 => hK _ _ (h v' w' h2)
theorem step_append_full {ops : Array Oper} {o : Oper} {a : Act} {K : Act → World → Prop} {Q : Exit → Act → World → Prop} {E : Prop} (hgd : o.guard = none) (s x : Operand) (t : TypeId)
    (ho : o.op = .call { callee := .builtin .append, args := #[s, x], argTypes := #[t, t] })
    (e : TypeId) (i : TypeInfo) (z : Value) (size bytes : Nat) (ht : P.underlying t = some (.slice e)) (hi : P.info? e = some i) (hz : i.zero = some z)
    (hsize : i.size = size) (hby : i.bytes = bytes) (hzs : z.cells.size = size)
    (B0 : Nat) (A0 : Option Addr) (n : Nat) (olds : List Value) (hs : a.eval s = .slice A0 n n) (hr0 : Reads w B0 size A0 n olds)
    (B : Nat) (A : Option Addr) (m c : Nat) (news : List Value) (hx : a.eval x = .slice A m c) (hr : Reads w B size A m news)
    (h63 : n + m ≤ maxLen) (hbytes : (n + m) * bytes ≤ 140737488355328)
    (h : ∀ v' w', FullApp w e size A0 n m (olds ++ news) v' w' → K (a.put o.dst v') w') :
    if Region.wanted o (yielded ops a.tmps) = true then Oper.wp P o a w K Q else E := by
  have hw : Region.wanted o (yielded ops a.tmps) = true := by simp [Region.wanted, hgd]
  rw [if_pos hw]
  exact wp_append_full w s x t ho e i z size bytes ht hi hz hsize hby hzs B0 A0 n olds hs hr0 B A m c news hx hr h63 hbytes h
end

/-- Of bytes: what comes back reads as all of them. -/
theorem FullApp.dat {w w' : World} {e : Nat} {A0 : Option Addr} {n m : Nat} {xs ys : List Nat} {v : Value} (h : FullApp w e 1 A0 n m (vb xs ++ vb ys) v w') (hx : Rd w A0 n xs) (hy : ys.length = m) (hs : ∀ y ∈ ys, y < 256) :
    ∃ A c, v = .slice A (n + m) c ∧ (⟨A, n + m, c, xs ++ ys⟩ : Dat).Ok w' ∧ Below w.heap.size w w' := by
  rcases h with ⟨rfl, rfl, rfl⟩ | ⟨_, cap, rfl, ho, hb⟩
  · have hye : ys = [] := List.eq_nil_of_length_eq_zero hy
    subst hye
    exact ⟨A0, n, rfl, ⟨by simpa using hx, Nat.le_refl _⟩, Below.refl _ _⟩
  · rw [← vb_append] at ho
    have hsm : ∀ x ∈ xs ++ ys, x < 256 := fun x hxx => by
      rcases List.mem_append.1 hxx with hxx | hxx
      · exact hx.small x hxx
      · exact hs x hxx
    exact ⟨_, cap, rfl, ⟨Rd.of_own ho hsm, own_cap ho⟩, hb⟩
/-- Onto nothing. -/
theorem FullApp.copy {w w' : World} {e : Nat} {A0 : Option Addr} {m : Nat} {ys : List Nat} {v : Value} (h : FullApp w e 1 A0 0 m ([] ++ vb ys) v w') (hy : ys.length = m) (hs : ∀ y ∈ ys, y < 256) :
    ∃ A c, v = .slice A m c ∧ (⟨A, m, c, ys⟩ : Dat).Ok w' ∧ Below w.heap.size w w' := by
  obtain ⟨A, c, h1, h2, h3⟩ := FullApp.dat (xs := []) h Rd.nil hy hs
  rw [Nat.zero_add] at h1 h2
  exact ⟨A, c, h1, h2, h3⟩
end Go.Proofs.Ytfcomnpoehpgiaa
