/- DERIVED. Plain mathematics and walks, laid together (8). -/
import Derived.Test.YtokfgoepnfjafaaGreatEj07
namespace Go.Proofs.YtokfgoepnfjafaaGreat.N
open Go.RowKit Go.Maps
open Go.Proofs.YtokfgoepnfjafaaGreat.T
structure D5 (w W : World) (u : Value) (n : Nd) : Prop where
  b : Below w.heap.size w W
  g : GX W w.heap.size u
  n : NX W (w.heap.size + 1) n
  z : EX W (w.heap.size + 2) e0
  a : EX W (w.heap.size + 3) e0
theorem D5.start (w : World) (u : Value) (n : Nd) : D5 w ((((w.alloc (.cells #[u] 24)).alloc (ndO n)).alloc (emO e0)).alloc (emO e0)) u n := by
  have s1 := World.size_alloc w (.cells #[u] 24)
  have s2 := World.size_alloc (w.alloc (.cells #[u] 24)) (ndO n)
  have s3 := World.size_alloc ((w.alloc (.cells #[u] 24)).alloc (ndO n)) (emO e0)
  refine ⟨((((Below.refl _ _).alloc (Nat.le_refl _) _).alloc (by omega) _).alloc (by omega) _).alloc (by omega) _, (((GX.mk (heap_alloc_new w _)).below (below_box _ _)).below (below_box _ _)).below (below_box _ _), nx_below (nx_below ?_ (below_box _ _)) (below_box _ _), EX.below ?_ (below_box _ _), ?_⟩
  · have h : NX ((w.alloc (.cells #[u] 24)).alloc (ndO n)) (w.alloc (.cells #[u] 24)).heap.size n := ⟨heap_alloc_new _ _⟩
    rw [s1] at h; exact h
  · have h := EX.new ((w.alloc (.cells #[u] 24)).alloc (ndO n)) e0; rw [s2, s1] at h; exact h
  · have h := EX.new (((w.alloc (.cells #[u] 24)).alloc (ndO n)).alloc (emO e0)) e0; rw [s3, s2, s1] at h; exact h
theorem D5.fin (w : World) (u : Value) (x : Obj) (f a : Em) : EX ((((w.alloc (.cells #[u] 24)).alloc x).alloc (emO f)).alloc (emO a)) (w.heap.size + 1 + 1) f ∧ Below w.heap.size w ((((w.alloc (.cells #[u] 24)).alloc x).alloc (emO f)).alloc (emO a)) := by
  have s1 := World.size_alloc w (.cells #[u] 24)
  have s2 := World.size_alloc (w.alloc (.cells #[u] 24)) x
  have s3 := World.size_alloc ((w.alloc (.cells #[u] 24)).alloc x) (emO f)
  refine ⟨EX.below ?_ (below_box _ _), ((((Below.refl _ _).alloc (Nat.le_refl _) _).alloc (by omega) _).alloc (by omega) _).alloc (by omega) _⟩
  have h := EX.new ((w.alloc (.cells #[u] 24)).alloc x) f
  rw [s2, s1] at h
  exact h

set_option maxRecDepth 100000 in
set_option maxHeartbeats 8000000 in
theorem nodeD_2 (nd : Nd) (A Ak An : Option Addr) (gn c ck nn cn : Nat) (ho : nd.op = 2) (w : World) : Calls Tryz.prog 47 #[.agg #[.slice A gn c], ndG nd, .slice Ak 0 ck, .slice An nn cn] w fun e w' => e = .returned (emG ⟨false, true, -1, 0⟩) ∧ Below w.heap.size w w' := by
  go_enter Tryz.func47, Tryz.ntmps47
  go_wp2_with fail
  refine ret_ex (s := 8) (k := w.heap.size + 1 + 1) (e := ⟨false, true, -1, 0⟩) (by rfl) (by rfl) (by rfl) (D5.fin w _ _ ⟨false, true, -1, 0⟩ e0).1 ?_
  exact ⟨rfl, (D5.fin w _ _ ⟨false, true, -1, 0⟩ e0).2⟩

set_option maxRecDepth 100000 in
set_option maxHeartbeats 8000000 in
theorem nodeD_3 (nd : Nd) (A Ak An : Option Addr) (gn c ck nn cn : Nat) (ho : nd.op = 3) (w : World) : Calls Tryz.prog 47 #[.agg #[.slice A gn c], ndG nd, .slice Ak 0 ck, .slice An nn cn] w fun e w' => e = .returned (emG ⟨false, true, 1, 1⟩) ∧ Below w.heap.size w w' := by
  go_enter Tryz.func47, Tryz.ntmps47
  go_wp2_with fail
  refine ret_ex (s := 8) (k := w.heap.size + 1 + 1) (e := ⟨false, true, 1, 1⟩) (by rfl) (by rfl) (by rfl) (D5.fin w _ _ ⟨false, true, 1, 1⟩ e0).1 ?_
  exact ⟨rfl, (D5.fin w _ _ ⟨false, true, 1, 1⟩ e0).2⟩

set_option maxRecDepth 100000 in
set_option maxHeartbeats 8000000 in
theorem nodeD_5 (nd : Nd) (A Ak An : Option Addr) (gn c ck nn cn : Nat) (ho : nd.op = 5) (w : World) : Calls Tryz.prog 47 #[.agg #[.slice A gn c], ndG nd, .slice Ak 0 ck, .slice An nn cn] w fun e w' => e = .returned (emG ⟨false, true, 1, 1⟩) ∧ Below w.heap.size w w' := by
  go_enter Tryz.func47, Tryz.ntmps47
  go_wp2_with fail
  refine ret_ex (s := 8) (k := w.heap.size + 1 + 1) (e := ⟨false, true, 1, 1⟩) (by rfl) (by rfl) (by rfl) (D5.fin w _ _ ⟨false, true, 1, 1⟩ e0).1 ?_
  exact ⟨rfl, (D5.fin w _ _ ⟨false, true, 1, 1⟩ e0).2⟩

set_option maxRecDepth 100000 in
set_option maxHeartbeats 8000000 in
theorem nodeD_1 (nd : Nd) (A Ak An : Option Addr) (gn c ck nn cn : Nat) (ho : nd.op = 1) (w : World) : Calls Tryz.prog 47 #[.agg #[.slice A gn c], ndG nd, .slice Ak 0 ck, .slice An nn cn] w fun e w' => e = .returned (emG nothE) ∧ Below w.heap.size w w' := by
  go_enter Tryz.func47, Tryz.ntmps47
  go_wp2_with fail
  refine ret_ex (s := 8) (k := w.heap.size + 1 + 1) (e := nothE) (by rfl) (by rfl) (by rfl) (D5.fin w _ _ nothE e0).1 ?_
  exact ⟨rfl, (D5.fin w _ _ nothE e0).2⟩

set_option maxRecDepth 100000 in
set_option maxHeartbeats 8000000 in
theorem nodeD_17 (nd : Nd) (A Ak An : Option Addr) (gn c ck nn cn : Nat) (ho : nd.op = 17) (w : World) : Calls Tryz.prog 47 #[.agg #[.slice A gn c], ndG nd, .slice Ak 0 ck, .slice An nn cn] w fun e w' => e = .returned (emG nothE) ∧ Below w.heap.size w w' := by
  go_enter Tryz.func47, Tryz.ntmps47
  go_wp2_with fail
  refine ret_ex (s := 8) (k := w.heap.size + 1 + 1) (e := nothE) (by rfl) (by rfl) (by rfl) (D5.fin w _ _ nothE e0).1 ?_
  exact ⟨rfl, (D5.fin w _ _ nothE e0).2⟩

set_option maxRecDepth 100000 in
set_option maxHeartbeats 8000000 in
theorem nodeD_4 (nd : Nd) (A Ak An : Option Addr) (gn c ck nn cn : Nat) (ho : nd.op = 4) (_hs : nd.tx.size ≤ 140737488355328) (w : World) : Calls Tryz.prog 47 #[.agg #[.slice A gn c], ndG nd, .slice Ak 0 ck, .slice An nn cn] w fun e w' => e = .returned (emG ⟨false, true, (nd.tx.size : Int), (nd.tx.size : Int)⟩) ∧ Below w.heap.size w w' := by
  go_enter Tryz.func47, Tryz.ntmps47
  go_wp2_with fail
  refine ret_ex (s := 8) (k := w.heap.size + 1 + 1) (e := ⟨false, true, (nd.tx.size : Int), (nd.tx.size : Int)⟩) (by rfl) (by rfl) (by rfl) (D5.fin w _ _ ⟨false, true, (nd.tx.size : Int), (nd.tx.size : Int)⟩ e0).1 ?_
  exact ⟨rfl, (D5.fin w _ _ ⟨false, true, (nd.tx.size : Int), (nd.tx.size : Int)⟩ e0).2⟩
end Go.Proofs.YtokfgoepnfjafaaGreat.N
