/- Contracts: quarters (l02 Quarter, both sides). -/
import Derived.Test.YtdcbideddlpodaaDoorW1a
import Derived.Test.YtdcbideddlpodaaDoorRows1
import Derived.StillTailTactics
namespace Go.Proofs.YtdcbideddlpodaaDoor
open Go.ChangeShapes Go.WideShapes Go.ChangeAt Go.RowKit
set_option linter.unusedVariables false

def add32 (x y : Int) : Int := (x + y) % 4294967296
def xor32 (x y : Int) : Int := bits .xor .u32 x y
def isU (x : Int) : Prop := 0 ≤ x ∧ x ≤ 4294967295
theorem add32_u (x y : Int) : isU (add32 x y) := by unfold isU add32; omega
theorem xor32_u {x y : Int} (hx : isU x) (hy : isU y) : isU (xor32 x y) := by
  obtain ⟨h1, h2⟩ := bounds_u32 (wf_bits .xor .u32 x y)
  exact ⟨h1, h2⟩
theorem rot_u {x : Int} (k : Int) (hx : isU x) : isU (rot x k) := by
  have := rot_bd x k hx.1 hx.2
  exact ⟨this.1, by omega⟩

/-- Four words turned. -/
structure Four where
  a : Int
  b : Int
  c : Int
  d : Int
def Four.u (q : Four) : Prop := isU q.a ∧ isU q.b ∧ isU q.c ∧ isU q.d
def Four.s1 (q : Four) : Four := { q with a := add32 q.a q.b }
def Four.s2 (k : Int) (q : Four) : Four := { q with d := rot (xor32 q.d q.a) k }
def Four.s3 (q : Four) : Four := { q with c := add32 q.c q.d }
def Four.s4 (k : Int) (q : Four) : Four := { q with b := rot (xor32 q.b q.c) k }
def Four.turn (q : Four) : Four := (((((((q.s1).s2 16).s3).s4 12).s1).s2 8).s3).s4 7
theorem Four.turn_u {q : Four} (h : q.u) : q.turn.u := by
  obtain ⟨ha, hb, hc, hd⟩ := h
  have s1 : ∀ {q : Four}, q.u → q.s1.u := fun h => ⟨add32_u _ _, h.2.1, h.2.2.1, h.2.2.2⟩
  have s2 : ∀ (k : Int) {q : Four}, q.u → (q.s2 k).u := fun k _ h => ⟨h.1, h.2.1, h.2.2.1, rot_u k (xor32_u h.2.2.2 h.1)⟩
  have s3 : ∀ {q : Four}, q.u → q.s3.u := fun h => ⟨h.1, h.2.1, add32_u _ _, h.2.2.2⟩
  have s4 : ∀ (k : Int) {q : Four}, q.u → (q.s4 k).u := fun k _ h => ⟨h.1, rot_u k (xor32_u h.2.1 h.2.2.1), h.2.2.1, h.2.2.2⟩
  exact s4 7 (s3 (s2 8 (s1 (s4 12 (s3 (s2 16 (s1 ⟨ha, hb, hc, hd⟩)))))))

theorem l2Rot_any (x k : Int) (hk0 : 0 ≤ k) (hk : k ≤ 31) (w : World) :
    Calls Tryd.prog 62 #[.int .u32 x, .int .u64 k] w fun e w' => e = .returned (.int .u32 (rot x k)) ∧ w = w' := by
  go_enter Tryd.func62, Tryd.ntmps62
  go_wp2
  go_ret
  exact ⟨rfl, rfl⟩

/-- A row whose cells at four places are known. -/
def upd (zs : List Int) (i j k l : Nat) (q : Four) : List Int := (((zs.set i q.a).set j q.b).set k q.c).set l q.d

structure Apart (n i j k l : Nat) : Prop where
  hi : i < n
  hj : j < n
  hk : k < n
  hl : l < n
  ij : i ≠ j
  ik : i ≠ k
  il : i ≠ l
  jk : j ≠ k
  jl : j ≠ l
  kl : k ≠ l

theorem upd_len (zs : List Int) (i j k l : Nat) (q : Four) : (upd zs i j k l q).length = zs.length := by simp [upd]
theorem upd_i {zs : List Int} {i j k l : Nat} (h : Apart zs.length i j k l) (q : Four) : (upd zs i j k l q)[i]? = some q.a := by
  have := h.hi
  simp [upd, h.ij.symm, h.ik.symm, h.il.symm, this]
theorem upd_j {zs : List Int} {i j k l : Nat} (h : Apart zs.length i j k l) (q : Four) : (upd zs i j k l q)[j]? = some q.b := by
  have := h.hj
  simp [upd, h.jk.symm, h.jl.symm, this]
theorem upd_k {zs : List Int} {i j k l : Nat} (h : Apart zs.length i j k l) (q : Four) : (upd zs i j k l q)[k]? = some q.c := by
  have := h.hk
  simp [upd, h.kl.symm, this]
theorem upd_l {zs : List Int} {i j k l : Nat} (h : Apart zs.length i j k l) (q : Four) : (upd zs i j k l q)[l]? = some q.d := by
  have := h.hl
  simp [upd, this]
theorem upd_set_i {zs : List Int} {i j k l : Nat} (h : Apart zs.length i j k l) (q : Four) (x : Int) : (upd zs i j k l q).set i x = upd zs i j k l { q with a := x } := by
  unfold upd
  rw [List.set_comm _ _ h.il.symm, List.set_comm _ _ h.ik.symm, List.set_comm _ _ h.ij.symm, List.set_set]
theorem upd_set_j {zs : List Int} {i j k l : Nat} (h : Apart zs.length i j k l) (q : Four) (x : Int) : (upd zs i j k l q).set j x = upd zs i j k l { q with b := x } := by
  unfold upd
  rw [List.set_comm _ _ h.jl.symm, List.set_comm _ _ h.jk.symm, List.set_set]
theorem upd_set_k {zs : List Int} {i j k l : Nat} (h : Apart zs.length i j k l) (q : Four) (x : Int) : (upd zs i j k l q).set k x = upd zs i j k l { q with c := x } := by
  unfold upd
  rw [List.set_comm _ _ h.kl.symm, List.set_set]
theorem upd_set_l {zs : List Int} {i j k l : Nat} (h : Apart zs.length i j k l) (q : Four) (x : Int) : (upd zs i j k l q).set l x = upd zs i j k l { q with d := x } := by
  unfold upd
  rw [List.set_set]

/-- What the walk holds of the row between two statements. -/
structure Q4 (w0 w : World) (base g n cap : Nat) (zs : List Int) (i j k l : Nat) (q : Four) : Prop where
  own : OwnK 42 .u32 w base (.slice (some ⟨g, 0, none⟩) n cap) (upd zs i j k l q)
  ca : w.cell? ⟨g, i, none⟩ = some (.int .u32 q.a)
  cb : w.cell? ⟨g, j, none⟩ = some (.int .u32 q.b)
  cc : w.cell? ⟨g, k, none⟩ = some (.int .u32 q.c)
  cd : w.cell? ⟨g, l, none⟩ = some (.int .u32 q.d)
  fr : ∀ x, w.frozen? ⟨g, x, none⟩ = false
  kept : w0.grownBy w (some g)
  u : q.u

theorem Q4.mk' {w0 w : World} {base g n cap : Nat} {zs : List Int} {i j k l : Nat} {q : Four} (hn : n = zs.length) (hA : Apart n i j k l) (h : OwnK 42 .u32 w base (.slice (some ⟨g, 0, none⟩) n cap) (upd zs i j k l q)) (hg : w0.grownBy w (some g)) (hu : q.u) : Q4 w0 w base g n cap zs i j k l q := by
  subst hn
  have hl := upd_len zs i j k l q
  have hcell : ∀ x, x < zs.length → w.cell? ⟨g, x, none⟩ = ((upd zs i j k l q).map (Value.int .u32))[x]? := by
    intro x hx
    have h' := h
    unfold OwnK at h'
    rw [hl] at h'
    exact World.ownsRow.cellAt h' x (by omega)
  refine ⟨h, ?_, ?_, ?_, ?_, fun x => h.free hl.symm x, hg, hu⟩
  · rw [hcell i hA.hi, List.getElem?_map, upd_i hA]; rfl
  · rw [hcell j hA.hj, List.getElem?_map, upd_j hA]; rfl
  · rw [hcell k hA.hk, List.getElem?_map, upd_k hA]; rfl
  · rw [hcell l hA.hl, List.getElem?_map, upd_l hA]; rfl

theorem grown_trans2 {w w1 w2 : World} {row : Option Nat} (h : w.grownBy w1 row) (k : w1.grownBy w2 row) : w.grownBy w2 row :=
  ⟨k.os.trans h.os, k.tape.trans h.tape, k.output.trans h.output, Nat.le_trans h.size k.size, fun i hi hn => (k.block i (Nat.lt_of_lt_of_le hi h.size) hn).trans (h.block i hi hn)⟩
theorem grown_setCell2 (w : World) (b o : Nat) (u : Value) : w.grownBy (w.setCell ⟨b, o, none⟩ u) (some b) :=
  ⟨rfl, rfl, rfl, by simp [World.setCell], fun k _ hk => Below.heap_setCell _ _ _ _ (fun e => hk (by rw [e]))⟩

theorem Q4.drew {w0 w : World} {base g n cap : Nat} {zs : List Int} {i j k l : Nat} {q : Four} (h : Q4 w0 w base g n cap zs i j k l q) : Q4 w0 w.drew base g n cap zs i j k l q :=
  ⟨h.own, h.ca, h.cb, h.cc, h.cd, h.fr, ⟨h.kept.os, h.kept.tape, h.kept.output, h.kept.size, h.kept.block⟩, h.u⟩
theorem Q4.set {w0 w : World} {base g n cap : Nat} {zs : List Int} {i j k l : Nat} {q q' : Four} (h : Q4 w0 w base g n cap zs i j k l q) (hn : n = zs.length) (hA : Apart n i j k l) (x : Nat) (v : Int) (he : (upd zs i j k l q).set x v = upd zs i j k l q') (hu : q'.u) : Q4 w0 (w.setCell ⟨g, x, none⟩ (.int .u32 v)) base g n cap zs i j k l q' := by
  have := h.own.set (by rw [upd_len]; exact hn) x v
  rw [he] at this
  exact Q4.mk' hn hA this (grown_trans2 h.kept (grown_setCell2 w g x _)) hu

theorem s1_u {q : Four} (h : q.u) : q.s1.u := ⟨add32_u _ _, h.2.1, h.2.2.1, h.2.2.2⟩
theorem s2_u (k : Int) {q : Four} (h : q.u) : (q.s2 k).u := ⟨h.1, h.2.1, h.2.2.1, rot_u k (xor32_u h.2.2.2 h.1)⟩
theorem s3_u {q : Four} (h : q.u) : q.s3.u := ⟨h.1, h.2.1, add32_u _ _, h.2.2.2⟩
theorem s4_u (k : Int) {q : Four} (h : q.u) : (q.s4 k).u := ⟨h.1, rot_u k (xor32_u h.2.1 h.2.2.1), h.2.2.1, h.2.2.2⟩
theorem wrap_add32 (x y : Int) : IntKind.u32.wrap (x + y) = add32 x y := by rw [IntKind.wrap_u32']; rfl
theorem still_rot (x k : Int) (hk0 : 0 ≤ k) (hk : k ≤ 31) (w : World) : Calls Tryd.prog 62 #[.int .u32 x, .int .u64 k] w fun e w' => e = .returned (.int .u32 (rot x k)) ∧ w' = w := (l2Rot_any x k hk0 hk w).mono fun _ _ h => ⟨h.1, h.2.symm⟩

end Go.Proofs.YtdcbideddlpodaaDoor
